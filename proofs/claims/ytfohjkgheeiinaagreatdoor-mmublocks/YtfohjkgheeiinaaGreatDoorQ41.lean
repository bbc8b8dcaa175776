/- Texts: RefDescB RefDescC -/
import Derived.Test.YtfohjkgheeiinaaGreatDoorQ10
import Derived.Test.YtfohjkgheeiinaaGreatDoorQ12
import Derived.Deep.DeepCutAuto
set_option maxHeartbeats 16000000
set_option maxRecDepth 100000
namespace Go.Proofs.YtfohjkgheeiinaaGreatDoor
open Go.RowKit
theorem info_arr64 (f : Nat → Bool) : (Tryz.prog.info? 203).map (·.size) = some (arr f).size := by
 rw [arr_size]; kernel_rfl
theorem cGet (l n : Nat) (h : rightB (l : Int) (n : Int) = true) (y : Nat) (hy : y < 18446744073709551616) (w : World) :
  Calls Tryz.prog 85 #[.int .u64 y, .int .i64 l, .int .i64 n] w fun e w' => e = .returned (.int .u64 ((getV l n y : Nat) : Int)) ∧ Below w.heap.size w w' := by
 have c := refGet_any y l n hy (by have := right_nat h; omega) w
 rw [getV_eq h] at c
 exact c
abbrev zeros : Array Value := #[.int .i64 0, .int .u64 0, .bool false, .bool false, .bool false, .bool false, .int .i64 0]
theorem rdec_inv (l : Int) (x : Nat) (hx : x < 18446744073709551616) (h0 : x.testBit 0 = false) (w : World) :
  Calls Tryz.prog 113 #[.int .i64 l, .int .u64 x] w fun e w' => e = .returned (.tuple #[dv 0 0 false false false false 0, .bool true]) ∧ Below w.heap.size w w' := by
 go_enter Tryz.func113, Tryz.ntmps113
 go_wp2_with fail
 refine (bits_any x hx _).mono ?_
 rintro e w1 ⟨rfl, hb1⟩
 have hsz : w.heap.size < w1.heap.size := by have := hb1.size; simp at this; omega
 have hz : w1.heap[w.heap.size]? = some (.cells zeros 98 (0, 0)) := by
  rw [hb1.block _ (by simp)]; exact heap_alloc_new _ _
 have hB : Below w.heap.size w w1 := below_tr (below_new _ _) hb1
 obtain ⟨⟨g0, g1, g2, g3, g4, g5, g6⟩, gf⟩ := cells7 hz
 have HZ : Hid _ := hz
 have hc : (w1.alloc (.cells (arr x.testBit) 203)).cell? ⟨w1.heap.size, 0, none⟩ = some (.bool false) := by
  rw [cell_of_row _ _ _ _ _ _ (heap_alloc_new _ _), arr_get _ _ (by omega), h0]
 clear hb1 hz
 go_wp2_with (first
  | (refine wpList_store_row rfl 203 _ _ rfl w1.heap.size (arr x.testBit) rfl rfl 203 _ (heap_alloc_new _ _) (info_arr64 _) (by rw [arr_size]; rfl) (arr_one _) ?_; rw [World.setRow_alloc_new]))
 refine bodyPost_ret (v := .tuple #[dv 0 0 false false false false 0, .bool true]) ?_ rfl ⟨rfl, (below7 hB (Nat.le_refl _) _ _ _ _ _ _ _).alloc (by simp; omega) _⟩
 exact results_row_tmp (p := 4) (u := 5) rfl _ _ w.heap.size 98 _ _ _ rfl ((heap_alloc_old _ _ (by simpa using hsz)).trans (row7 _ _ _ _ _ _ _ HZ.out)) Tryz.underlying98 rfl (by kernel_rfl)
def tabBad (x i : Nat) : Prop := x.testBit i = true ∧ (i < 12 ∨ 47 < i)
theorem g1236' (y : Nat) : getV 12 36 y = y / 4096 % 68719476736 := getV_mod (l := 12) (n := 36) (by decide) y
theorem out_wrap (x : Nat) : IntKind.u64.wrap (((getV 12 36 x : Nat) : Int) * 4096) = ((outV x : Nat) : Int) := by
 rw [IntKind.wrap_u64, outV_mod, g1236']; omega
theorem rdec_tab (l : Int) (x : Nat) (hx : x < 18446744073709551616) (h0 : x.testBit 0 = true) (h1 : x.testBit 1 = true) (h3 : l < 3) (hok : ∀ i, 2 ≤ i → i < 64 → ¬ tabBad x i) (w : World) :
  Calls Tryz.prog 113 #[.int .i64 l, .int .u64 x] w fun e w' => e = .returned (.tuple #[dv 1 (outV x) false false false false 0, .bool true]) ∧ Below w.heap.size w w' := by
 have d3 : decide (l < 3) = true := decide_eq_true h3
 have cG : ∀ w1, Calls Tryz.prog 85 #[.int .u64 x, .int .i64 12, .int .i64 36] w1 fun e w' => e = .returned (.int .u64 ((getV 12 36 x : Nat) : Int)) ∧ Below w1.heap.size w1 w' := fun w1 => cGet 12 36 (by decide) x hx w1
 have hw := out_wrap x
 generalize getV 12 36 x = G at *
 generalize outV x = O at *
 go_enter Tryz.func113, Tryz.ntmps113
 go_wp2_with fail
 refine (bits_any x hx _).mono ?_
 rintro e w1 ⟨rfl, hb1⟩
 have hsz : w.heap.size < w1.heap.size := by have := hb1.size; simp at this; omega
 have hz : w1.heap[w.heap.size]? = some (.cells zeros 98 (0, 0)) := by
  rw [hb1.block _ (by simp)]; exact heap_alloc_new _ _
 have hB : Below w.heap.size w w1 := below_tr (below_new _ _) hb1
 have hc : (w1.alloc (.cells (arr x.testBit) 203)).cell? ⟨w1.heap.size, 0, none⟩ = some (.bool true) := by
  rw [cell_of_row _ _ _ _ _ _ (heap_alloc_new _ _), arr_get _ _ (by omega), h0]
 clear hb1
 go_wp2_with (first
  | (refine wpList_store_row rfl 203 _ _ rfl w1.heap.size (arr x.testBit) rfl rfl 203 _ (heap_alloc_new _ _) (info_arr64 _) (by rw [arr_size]; rfl) (arr_one _) ?_; rw [World.setRow_alloc_new]))
 refine (cG _).mono ?_
 rintro e w2 ⟨rfl, hb2⟩
 have ha2 : w2.heap[w1.heap.size]? = some (.cells (arr x.testBit) 203 (0, 0)) := by
  rw [hb2.block _ (by simp)]; exact heap_alloc_new _ _
 have hz2 : w2.heap[w.heap.size]? = some (.cells zeros 98 (0, 0)) := by
  rw [hb2.block _ (by simp; omega), heap_alloc_old _ _ hsz]; exact hz
 have hB2 : Below w.heap.size w w2 := below_tr (hB.alloc hB.size _) hb2
 have hcell : ∀ i, i < 64 → w2.cell? ⟨w1.heap.size, i, none⟩ = some (.bool (x.testBit i)) := fun i hi => by
  rw [cell_of_row _ _ _ _ _ _ ha2, arr_get _ _ hi]
 clear hb2 hz hB hc cG
 have hc1 := hcell 1 (by omega)
 rw [h1] at hc1
 clear ha2
 obtain ⟨⟨g0, g1, g2, g3, g4, g5, g6⟩, gf⟩ := cells7 hz2
 have HZ : Hid _ := hz2
 have HC : Hid _ := hcell
 clear hz2 hcell h0 h1
 go_wp2_with fail
 go_loop [8] (fun i => ∃ k : Nat, 2 ≤ k ∧ k ≤ 64 ∧ i = .int .i64 k) (fun i => 64 - (intOf i).toNat)
 case atStart => exact ⟨2, by omega, by omega, rfl⟩
 case round =>
  obtain ⟨k, hk2, hk, rfl⟩ := hrel
  by_cases hlt : k < 64
  ·have hck := HC.out k hlt
   have hn := hok k hk2 hlt
   cases hb : x.testBit k
   ·rw [hb] at hck
    clear hn hb hok
    go_wp2
    exact ⟨⟨k + 1, by omega, by omega, by go_num⟩, by simp [intOf]; omega⟩
   ·rw [hb] at hck
    have hr : 12 ≤ k ∧ k ≤ 47 := by
     by_cases q : k < 12 ∨ 47 < k
     ·exact absurd ⟨hb, q⟩ hn
     ·omega
    obtain ⟨hr1, hr2⟩ := hr
    have r1 : ¬ (k : Int) < 12 := by omega
    have r2 : ¬ 47 < (k : Int) := by omega
    have r3 : ¬ k < 12 := by omega
    have r4 : ¬ 47 < k := by omega
    have r5 : decide ((k : Int) < 12) = false := decide_eq_false r1
    have r6 : decide (47 < (k : Int)) = false := decide_eq_false r2
    clear hn hb hok
    go_wp2
    exact ⟨⟨k + 1, by omega, by omega, by go_num⟩, by simp [intOf]; omega⟩
  ·have e64 : k = 64 := by omega
   subst e64
   clear hok
   go_wp2
   refine bodyPost_ret (v := .tuple #[dv 1 O false false false false 0, .bool true]) ?_ rfl ⟨rfl, below7 hB2 (Nat.le_refl _) _ _ _ _ _ _ _⟩
   exact results_row_tmp (p := 4) (u := 5) rfl _ _ w.heap.size 98 _ _ _ rfl (row7 _ _ _ _ _ _ _ HZ.out) Tryz.underlying98 rfl (by kernel_rfl)
theorem rdec_tabBad (l : Int) (x : Nat) (hx : x < 18446744073709551616) (h0 : x.testBit 0 = true) (h1 : x.testBit 1 = true) (h3 : l < 3) (i0 : Nat) (hi2 : 2 ≤ i0) (hi64 : i0 < 64) (hbad : tabBad x i0) (hmin : ∀ i, 2 ≤ i → i < i0 → ¬ tabBad x i) (w : World) :
  Calls Tryz.prog 113 #[.int .i64 l, .int .u64 x] w fun e w' => e = .returned (.tuple #[dv 0 0 false false false false 0, .bool false]) ∧ Below w.heap.size w w' := by
 have d3 : decide (l < 3) = true := decide_eq_true h3
 have cG : ∀ w1, Calls Tryz.prog 85 #[.int .u64 x, .int .i64 12, .int .i64 36] w1 fun e w' => e = .returned (.int .u64 ((getV 12 36 x : Nat) : Int)) ∧ Below w1.heap.size w1 w' := fun w1 => cGet 12 36 (by decide) x hx w1
 have hw := out_wrap x
 generalize getV 12 36 x = G at *
 generalize outV x = O at *
 go_enter Tryz.func113, Tryz.ntmps113
 go_wp2_with fail
 refine (bits_any x hx _).mono ?_
 rintro e w1 ⟨rfl, hb1⟩
 have hsz : w.heap.size < w1.heap.size := by have := hb1.size; simp at this; omega
 have hz : w1.heap[w.heap.size]? = some (.cells zeros 98 (0, 0)) := by
  rw [hb1.block _ (by simp)]; exact heap_alloc_new _ _
 have hB : Below w.heap.size w w1 := below_tr (below_new _ _) hb1
 have hc : (w1.alloc (.cells (arr x.testBit) 203)).cell? ⟨w1.heap.size, 0, none⟩ = some (.bool true) := by
  rw [cell_of_row _ _ _ _ _ _ (heap_alloc_new _ _), arr_get _ _ (by omega), h0]
 clear hb1
 go_wp2_with (first
  | (refine wpList_store_row rfl 203 _ _ rfl w1.heap.size (arr x.testBit) rfl rfl 203 _ (heap_alloc_new _ _) (info_arr64 _) (by rw [arr_size]; rfl) (arr_one _) ?_; rw [World.setRow_alloc_new]))
 refine (cG _).mono ?_
 rintro e w2 ⟨rfl, hb2⟩
 have ha2 : w2.heap[w1.heap.size]? = some (.cells (arr x.testBit) 203 (0, 0)) := by
  rw [hb2.block _ (by simp)]; exact heap_alloc_new _ _
 have hz2 : w2.heap[w.heap.size]? = some (.cells zeros 98 (0, 0)) := by
  rw [hb2.block _ (by simp; omega), heap_alloc_old _ _ hsz]; exact hz
 have hB2 : Below w.heap.size w w2 := below_tr (hB.alloc hB.size _) hb2
 have hcell : ∀ i, i < 64 → w2.cell? ⟨w1.heap.size, i, none⟩ = some (.bool (x.testBit i)) := fun i hi => by
  rw [cell_of_row _ _ _ _ _ _ ha2, arr_get _ _ hi]
 clear hb2 hz hB hc cG
 have hc1 := hcell 1 (by omega)
 rw [h1] at hc1
 clear ha2
 obtain ⟨⟨g0, g1, g2, g3, g4, g5, g6⟩, gf⟩ := cells7 hz2
 have HZ : Hid _ := hz2
 have HC : Hid _ := hcell
 clear hz2 hcell h0 h1
 go_wp2_with fail
 go_loop [8] (fun i => ∃ k : Nat, 2 ≤ k ∧ k ≤ i0 ∧ i = .int .i64 k) (fun i => 64 - (intOf i).toNat)
 case atStart => exact ⟨2, by omega, by omega, rfl⟩
 case round =>
  obtain ⟨k, hk2, hk, rfl⟩ := hrel
  have hck := HC.out k (by omega)
  have hlt : (k : Int) < 64 := by omega
  have hlt2 : k < 64 := by omega
  by_cases hki : k < i0
  ·have hn := hmin k hk2 hki
   cases hb : x.testBit k
   ·rw [hb] at hck
    clear hn hb hmin hbad
    go_wp2
    exact ⟨⟨k + 1, by omega, by omega, by go_num⟩, by simp [intOf]; omega⟩
   ·rw [hb] at hck
    have hr : 12 ≤ k ∧ k ≤ 47 := by
     by_cases q : k < 12 ∨ 47 < k
     ·exact absurd ⟨hb, q⟩ hn
     ·omega
    obtain ⟨hr1, hr2⟩ := hr
    have r1 : ¬ (k : Int) < 12 := by omega
    have r2 : ¬ 47 < (k : Int) := by omega
    have r3 : ¬ k < 12 := by omega
    have r4 : ¬ 47 < k := by omega
    have r5 : decide ((k : Int) < 12) = false := decide_eq_false r1
    have r6 : decide (47 < (k : Int)) = false := decide_eq_false r2
    clear hn hb hmin hbad
    go_wp2
    exact ⟨⟨k + 1, by omega, by omega, by go_num⟩, by simp [intOf]; omega⟩
  ·have ek : k = i0 := by omega
   subst ek
   obtain ⟨hb, hq⟩ := hbad
   rw [hb] at hck
   by_cases q : k < 12
   ·have r1 : (k : Int) < 12 := by omega
    have r5 : decide ((k : Int) < 12) = true := decide_eq_true r1
    clear hq hmin hb hki hk
    go_wp2
    refine bodyPost_ret (v := .tuple #[dv 0 0 false false false false 0, .bool false]) ?_ rfl ⟨rfl, below7 hB2 (Nat.le_refl _) _ _ _ _ _ _ _⟩
    exact results_row_tmp (p := 4) (u := 5) rfl _ _ w.heap.size 98 _ _ _ rfl (row7 _ _ _ _ _ _ _ HZ.out) Tryz.underlying98 rfl (by kernel_rfl)
   ·have r1 : ¬ (k : Int) < 12 := by omega
    have r5 : decide ((k : Int) < 12) = false := decide_eq_false r1
    have r2 : 47 < (k : Int) := by omega
    have r4 : 47 < k := by omega
    have r6 : decide (47 < (k : Int)) = true := decide_eq_true r2
    clear hq hmin hb hki hk
    go_wp2
    refine bodyPost_ret (v := .tuple #[dv 0 0 false false false false 0, .bool false]) ?_ rfl ⟨rfl, below7 hB2 (Nat.le_refl _) _ _ _ _ _ _ _⟩
    exact results_row_tmp (p := 4) (u := 5) rfl _ _ w.heap.size 98 _ _ _ rfl (row7 _ _ _ _ _ _ _ HZ.out) Tryz.underlying98 rfl (by kernel_rfl)
end Go.Proofs.YtfohjkgheeiinaaGreatDoor
namespace Go.Proofs.YtfohjkgheeiinaaGreatDoor
open Go.RowKit
def leafBad (l : Int) (x i : Nat) : Prop := x.testBit i = true ∧ ((i : Int) < lowL l ∨ (47 < i ∧ i ≠ 53 ∧ i ≠ 54))
def headOK (x : Nat) : Bool := x.testBit 8 && x.testBit 9 && x.testBit 11 && x.testBit 53 && !x.testBit 5
theorem heap_drew (W : World) : W.drew.heap = W.heap := rfl
theorem cell_drew {w : World} {a : Addr} {v : Value} (h : w.cell? a = some v) : w.drew.cell? a = some v := cell_later (Below.refl _ _).drew h
theorem cell7 {w1 : World} {b g i : Nat} {v v0 v1 v2 v3 v4 v5 v6 : Value} (hne : b ≠ g) (h : w1.cell? ⟨b, i, none⟩ = some v) :
  (((((((w1.setCell ⟨g, 0, none⟩ v0).setCell ⟨g, 1, none⟩ v1).setCell ⟨g, 2, none⟩ v2).setCell ⟨g, 3, none⟩ v3).setCell ⟨g, 4, none⟩ v4).setCell ⟨g, 5, none⟩ v5).setCell ⟨g, 6, none⟩ v6).cell? ⟨b, i, none⟩ = some v := by
 have hn : g ≠ b := fun e => hne e.symm
 rw [World.cell?_setCell_far _ _ _ _ hn, World.cell?_setCell_far _ _ _ _ hn, World.cell?_setCell_far _ _ _ _ hn, World.cell?_setCell_far _ _ _ _ hn, World.cell?_setCell_far _ _ _ _ hn, World.cell?_setCell_far _ _ _ _ hn, World.cell?_setCell_far _ _ _ _ hn]
 exact h
theorem rdec_leafB (l : Int) (x : Nat) (hx : x < 18446744073709551616) (h0 : x.testBit 0 = true) (h1 : x.testBit 1 = false) (hl : isLv l = true) (R : Value) (ok : Bool)
  (hcase : ((headOK x && decide (0 < l ∧ l < 3)) = true ∧ (∀ i, 12 ≤ i → i < 64 → ¬ leafBad l x i) ∧ R = dv 2 (outV x) (x.testBit 6) (!x.testBit 7) (!x.testBit 54) (x.testBit 10) ((getV 2 3 x : Nat) : Int) ∧ ok = true) ∨
   ((headOK x && decide (0 < l ∧ l < 3)) = false ∧ R = dv 0 0 false false false false 0 ∧ ok = false) ∨
   ((headOK x && decide (0 < l ∧ l < 3)) = true ∧ (∃ i0, 12 ≤ i0 ∧ i0 < 64 ∧ leafBad l x i0 ∧ ∀ i, 12 ≤ i → i < i0 → ¬ leafBad l x i) ∧ R = dv 0 0 false false false false 0 ∧ ok = false)) (w : World) :
  Calls Tryz.prog 113 #[.int .i64 l, .int .u64 x] w fun e w' => e = .returned (.tuple #[R, .bool ok]) ∧ Below w.heap.size w w' := by
 have cA : ∀ w1, Calls Tryz.prog 85 #[.int .u64 x, .int .i64 2, .int .i64 3] w1 fun e w' => e = .returned (.int .u64 ((getV 2 3 x : Nat) : Int)) ∧ Below w1.heap.size w1 w' := fun w1 => cGet 2 3 (by decide) x hx w1
 have hwa : IntKind.i64.wrap ((getV 2 3 x : Nat) : Int) = ((getV 2 3 x : Nat) : Int) := by have := getV23_le x; rw [IntKind.wrap_i64]; omega
 have cL := fun w1 => refLow_any l hl w1
 unfold leafBad at hcase
 generalize lowL l = L at *
 generalize getV 2 3 x = A at *
 have cG : ∀ w1, Calls Tryz.prog 85 #[.int .u64 x, .int .i64 12, .int .i64 36] w1 fun e w' => e = .returned (.int .u64 ((getV 12 36 x : Nat) : Int)) ∧ Below w1.heap.size w1 w' := fun w1 => cGet 12 36 (by decide) x hx w1
 have hw := out_wrap x
 generalize getV 12 36 x = G at *
 generalize outV x = O at *
 have HCASE : Hid _ := hcase
 clear hcase
 go_enter Tryz.func113, Tryz.ntmps113
 go_wp2_with fail
 refine (bits_any x hx _).mono ?_
 rintro e w1 ⟨rfl, hb1⟩
 have hsz : w.heap.size < w1.heap.size := by have := hb1.size; simp at this; omega
 have hz : w1.heap[w.heap.size]? = some (.cells zeros 98 (0, 0)) := by
  rw [hb1.block _ (by simp)]; exact heap_alloc_new _ _
 have hB : Below w.heap.size w w1 := below_tr (below_new _ _) hb1
 have hc : (w1.alloc (.cells (arr x.testBit) 203)).cell? ⟨w1.heap.size, 0, none⟩ = some (.bool true) := by
  rw [cell_of_row _ _ _ _ _ _ (heap_alloc_new _ _), arr_get _ _ (by omega), h0]
 clear hb1
 go_wp2_with (first
  | (refine wpList_store_row rfl 203 _ _ rfl w1.heap.size (arr x.testBit) rfl rfl 203 _ (heap_alloc_new _ _) (info_arr64 _) (by rw [arr_size]; rfl) (arr_one _) ?_; rw [World.setRow_alloc_new]))
 refine (cG _).mono ?_
 rintro e w2 ⟨rfl, hb2⟩
 have ha2 : w2.heap[w1.heap.size]? = some (.cells (arr x.testBit) 203 (0, 0)) := by
  rw [hb2.block _ (by simp)]; exact heap_alloc_new _ _
 have hz2 : w2.heap[w.heap.size]? = some (.cells zeros 98 (0, 0)) := by
  rw [hb2.block _ (by simp; omega), heap_alloc_old _ _ hsz]; exact hz
 have hB2 : Below w.heap.size w w2 := below_tr (hB.alloc hB.size _) hb2
 have hcell : ∀ i, i < 64 → w2.cell? ⟨w1.heap.size, i, none⟩ = some (.bool (x.testBit i)) := fun i hi => by
  rw [cell_of_row _ _ _ _ _ _ ha2, arr_get _ _ hi]
 clear hb2 hz hB hc cG
 have hc1 := hcell 1 (by omega)
 rw [h1] at hc1
 have c6 := hcell 6 (by omega)
 have c7 := hcell 7 (by omega)
 have c10 := hcell 10 (by omega)
 have c54 := hcell 54 (by omega)
 have hs2 : w1.heap.size < w2.heap.size := World.block_lt_of_cell? _ _ c6
 have hne : w1.heap.size ≠ w2.heap.size := Nat.ne_of_lt hs2
 have HZ2 : Hid _ := hz2
 have HA2 : Hid _ := ha2
 clear hcell hz2 ha2
 go_upto_region 12 with fail
 go_cut [9] (fun t wc => ∃ K, t = .pointer (some ⟨K, 0, none⟩) ∧ Below w2.heap.size w2 wc ∧ w2.heap.size ≤ K ∧ wc.heap[K]? = some (.cells #[.int .i64 2, .int .u64 (O : Int), .bool (x.testBit 6), .bool (!x.testBit 7), .bool (!x.testBit 54), .bool (x.testBit 10), .int .i64 (A : Int)] 98 (0, 0)))
 case first =>
  clear cL
  go_region_held3 (fun w' => w'.cell? ⟨w1.heap.size, 6, none⟩ = some (.bool (x.testBit 6)) ∧ w'.cell? ⟨w1.heap.size, 7, none⟩ = some (.bool (x.testBit 7)) ∧ w'.cell? ⟨w1.heap.size, 10, none⟩ = some (.bool (x.testBit 10)) ∧ w'.cell? ⟨w1.heap.size, 54, none⟩ = some (.bool (x.testBit 54)) ∧ Below w2.heap.size w2 w')
   ((go_split_ands; refine ⟨?_, ?_, ?_, ?_, ?_⟩ <;> first | (with_reducible exact below7 hBw (Nat.le_refl _) _ _ _ _ _ _ _) | (with_reducible exact cell7 hne q6) | (with_reducible exact cell7 hne q7) | (with_reducible exact cell7 hne q10) | (with_reducible exact cell7 hne q54) | (with_reducible assumption) | (with_reducible exact cell_later hbm (by assumption)) | (with_reducible exact below_tr (by assumption) hbm) | (with_reducible exact cell_alloc (by assumption)) | (with_reducible exact cell_alloc q6) | (with_reducible exact cell_alloc q7) | (with_reducible exact cell_alloc q10) | (with_reducible exact cell_alloc q54) | (with_reducible exact hBw.alloc hBw.size _) | (with_reducible exact Below.alloc (by assumption) (Below.size (by assumption)) _) | (with_reducible exact (below_new _ _).drew) | (with_reducible exact (Below.refl _ _).drew) | (with_reducible exact Below.drew (by with_reducible assumption)) | (with_reducible exact cell_drew c6) | (with_reducible exact cell_drew (cell_alloc c6)) | (with_reducible exact cell_drew c7) | (with_reducible exact cell_drew (cell_alloc c7)) | (with_reducible exact cell_drew c10) | (with_reducible exact cell_drew (cell_alloc c10)) | (with_reducible exact cell_drew c54) | (with_reducible exact cell_drew (cell_alloc c54))))
   (first
    | (go_at_call 85; refine (cA _).mono ?_; rintro e w' ⟨rfl, hbm⟩; have hBw : Below w2.heap.size w2 w' := below_tr (by go_split_ands; first | (with_reducible assumption) | assumption) hbm; (try (have hK : w'.heap[w2.heap.size]? = some (.cells zeros 98 (0, 0)) := (by rw [hbm.block _ (by simp), heap_drew]; exact heap_alloc_new _ _); obtain ⟨⟨j0, j1, j2, j3, j4, j5, j6⟩, jf⟩ := cells7 hK)); have q6 := cell_later hbm (by go_split_ands; with_reducible assumption : World.cell? _ ⟨w1.heap.size, 6, none⟩ = some (.bool (x.testBit 6))); have q7 := cell_later hbm (by go_split_ands; with_reducible assumption : World.cell? _ ⟨w1.heap.size, 7, none⟩ = some (.bool (x.testBit 7))); have q10 := cell_later hbm (by go_split_ands; with_reducible assumption : World.cell? _ ⟨w1.heap.size, 10, none⟩ = some (.bool (x.testBit 10))); have q54 := cell_later hbm (by go_split_ands; with_reducible assumption : World.cell? _ ⟨w1.heap.size, 54, none⟩ = some (.bool (x.testBit 54)))))
  all_goals
   go_wp2
   go_meet
   first
    | (with_reducible exact ⟨_, rfl, hBw.alloc hBw.size _, hBw.size, heap_alloc_new _ _⟩)
    | (with_reducible exact ⟨_, rfl, below7 hBw (Nat.le_refl _) _ _ _ _ _ _ _, Nat.le_refl _, row7 _ _ _ _ _ _ _ hK⟩)
 case rest =>
  obtain ⟨K, rfl, hBc, hKs, hKr⟩ := hcut
  have hz := (hBc.block _ (by omega)).trans HZ2.out
  have ha := (hBc.block _ hs2).trans HA2.out
  have hBw : Below w.heap.size w wc := below_tr hB2 hBc
  have hcell : ∀ i, i < 64 → wc.cell? ⟨w1.heap.size, i, none⟩ = some (.bool (x.testBit i)) := fun i hi => by
   rw [cell_of_row _ _ _ _ _ _ ha, arr_get _ _ hi]
  obtain ⟨⟨m0, m1, m2, m3, m4, m5, m6⟩, mf⟩ := cells7 hKr
  obtain ⟨⟨g0, g1, g2, g3, g4, g5, g6⟩, gf⟩ := cells7 hz
  have p1 := hcell 1 (by omega)
  rw [h1] at p1
  have p5 := hcell 5 (by omega)
  have p8 := hcell 8 (by omega)
  have p9 := hcell 9 (by omega)
  have p11 := hcell 11 (by omega)
  have p53 := hcell 53 (by omega)
  have HCELL : Hid _ := hcell
  have HZ : Hid _ := hz
  have HA : Hid _ := ha
  have HKR : Hid _ := hKr
  have n1 : w1.heap.size ≠ K := by omega
  have n2 : w.heap.size ≠ K := by omega
  have n3 : K ≠ w1.heap.size := by omega
  have n4 : K ≠ w.heap.size := by omega
  have sw : w.heap.size < wc.heap.size := World.block_lt_of_cell? _ _ g0
  have sk : K < wc.heap.size := World.block_lt_of_cell? _ _ m0
  have s1 : w1.heap.size < wc.heap.size := World.block_lt_of_cell? _ _ p5
  clear hcell hz ha hKr hc1 c6 c7 c10 c54 hne HZ2 HA2 hB2 hBc cA hwa hw
  have HKX : Hid _ := HKR.out
  have HZX : Hid _ := HZ.out
  have HAX : Hid _ := HA.out
  have hBx := hBw
  clear HKR HZ HA
  by_cases hh : (headOK x && decide (0 < l ∧ l < 3)) = true
  rotate_left
  ·have hR : R = dv 0 0 false false false false 0 ∧ ok = false := by
    rcases HCASE.out with h | h | h
    ·exact absurd h.1 hh
    ·exact h.2
    ·exact absurd h.1 hh
   obtain ⟨rfl, rfl⟩ := hR
   clear HCASE cL HKX HAX HCELL
   by_cases e0 : l = 0
   ·subst e0
    clear hh
    go_wp2
    refine bodyPost_ret (v := .tuple #[dv 0 0 false false false false 0, .bool false]) ?_ rfl ⟨rfl, below7 hBx (Nat.le_refl _) _ _ _ _ _ _ _⟩
    exact results_row_tmp (p := 4) (u := 5) rfl _ _ w.heap.size 98 _ _ _ rfl (row7 _ _ _ _ _ _ _ HZX.out) Tryz.underlying98 rfl (by kernel_rfl)
   by_cases e3 : l = 3
   ·subst e3
    clear hh e0
    go_wp2
    refine bodyPost_ret (v := .tuple #[dv 0 0 false false false false 0, .bool false]) ?_ rfl ⟨rfl, below7 hBx (Nat.le_refl _) _ _ _ _ _ _ _⟩
    exact results_row_tmp (p := 4) (u := 5) rfl _ _ w.heap.size 98 _ _ _ rfl (row7 _ _ _ _ _ _ _ HZX.out) Tryz.underlying98 rfl (by kernel_rfl)
   have f0 : (l == 0) = false := by rw [beq_eq_false_iff_ne]; exact e0
   have f3 : (l == 3) = false := by rw [beq_eq_false_iff_ne]; exact e3
   have hh2 : headOK x = false := by
    have hlv := isLv_of hl
    have hd : decide (0 < l ∧ l < 3) = true := decide_eq_true (by omega)
    rw [hd, Bool.and_true] at hh
    simpa using hh
   clear hh
   cases b8 : x.testBit 8
   ·rw [b8] at p8
    clear hh2
    go_wp2
    refine bodyPost_ret (v := .tuple #[dv 0 0 false false false false 0, .bool false]) ?_ rfl ⟨rfl, below7 hBx (Nat.le_refl _) _ _ _ _ _ _ _⟩
    exact results_row_tmp (p := 4) (u := 5) rfl _ _ w.heap.size 98 _ _ _ rfl (row7 _ _ _ _ _ _ _ HZX.out) Tryz.underlying98 rfl (by kernel_rfl)
   rw [b8] at p8
   cases b9 : x.testBit 9
   ·rw [b9] at p9
    clear hh2
    go_wp2
    refine bodyPost_ret (v := .tuple #[dv 0 0 false false false false 0, .bool false]) ?_ rfl ⟨rfl, below7 hBx (Nat.le_refl _) _ _ _ _ _ _ _⟩
    exact results_row_tmp (p := 4) (u := 5) rfl _ _ w.heap.size 98 _ _ _ rfl (row7 _ _ _ _ _ _ _ HZX.out) Tryz.underlying98 rfl (by kernel_rfl)
   rw [b9] at p9
   cases b11 : x.testBit 11
   ·rw [b11] at p11
    clear hh2
    go_wp2
    refine bodyPost_ret (v := .tuple #[dv 0 0 false false false false 0, .bool false]) ?_ rfl ⟨rfl, below7 hBx (Nat.le_refl _) _ _ _ _ _ _ _⟩
    exact results_row_tmp (p := 4) (u := 5) rfl _ _ w.heap.size 98 _ _ _ rfl (row7 _ _ _ _ _ _ _ HZX.out) Tryz.underlying98 rfl (by kernel_rfl)
   rw [b11] at p11
   cases b53 : x.testBit 53
   ·rw [b53] at p53
    clear hh2
    go_wp2
    refine bodyPost_ret (v := .tuple #[dv 0 0 false false false false 0, .bool false]) ?_ rfl ⟨rfl, below7 hBx (Nat.le_refl _) _ _ _ _ _ _ _⟩
    exact results_row_tmp (p := 4) (u := 5) rfl _ _ w.heap.size 98 _ _ _ rfl (row7 _ _ _ _ _ _ _ HZX.out) Tryz.underlying98 rfl (by kernel_rfl)
   rw [b53] at p53
   have b5 : x.testBit 5 = true := by
    unfold headOK at hh2
    rw [b8, b9, b11, b53] at hh2
    simpa using hh2
   rw [b5] at p5
   clear hh2
   go_wp2
   refine bodyPost_ret (v := .tuple #[dv 0 0 false false false false 0, .bool false]) ?_ rfl ⟨rfl, below7 hBx (Nat.le_refl _) _ _ _ _ _ _ _⟩
   exact results_row_tmp (p := 4) (u := 5) rfl _ _ w.heap.size 98 _ _ _ rfl (row7 _ _ _ _ _ _ _ HZX.out) Tryz.underlying98 rfl (by kernel_rfl)
  have hq : x.testBit 8 = true ∧ x.testBit 9 = true ∧ x.testBit 11 = true ∧ x.testBit 53 = true ∧ x.testBit 5 = false := by
   have h2 := hh
   rw [Bool.and_eq_true] at h2
   have h2 := h2.1
   unfold headOK at h2
   simp only [Bool.and_eq_true, Bool.not_eq_true'] at h2
   exact ⟨h2.1.1.1.1, h2.1.1.1.2, h2.1.1.2, h2.1.2, h2.2⟩
  obtain ⟨b8, b9, b11, b53, b5⟩ := hq
  rw [b8] at p8
  rw [b9] at p9
  rw [b11] at p11
  rw [b53] at p53
  rw [b5] at p5
  have hlv : 0 < l ∧ l < 3 := by rw [Bool.and_eq_true] at hh; exact of_decide_eq_true hh.2
  have f0 : (l == 0) = false := by rw [beq_eq_false_iff_ne]; omega
  have f3 : (l == 3) = false := by rw [beq_eq_false_iff_ne]; omega
  have f4 : ¬ l = 0 := by omega
  have f5 : ¬ l = 3 := by omega
  clear hlv
  have hN : ∃ N : Nat, 12 ≤ N ∧ N ≤ 64 ∧ (∀ i, 12 ≤ i → i < N → ¬ (x.testBit i = true ∧ ((i : Int) < L ∨ (47 < i ∧ i ≠ 53 ∧ i ≠ 54)))) ∧
    ((N = 64 ∧ R = dv 2 O (x.testBit 6) (!x.testBit 7) (!x.testBit 54) (x.testBit 10) (A : Int) ∧ ok = true) ∨ (N < 64 ∧ (x.testBit N = true ∧ ((N : Int) < L ∨ (47 < N ∧ N ≠ 53 ∧ N ≠ 54))) ∧ R = dv 0 0 false false false false 0 ∧ ok = false)) := by
   rcases HCASE.out with h | h | h
   ·exact ⟨64, by omega, by omega, h.2.1, Or.inl ⟨rfl, h.2.2⟩⟩
   ·exact absurd hh (by rw [h.1]; decide)
   ·obtain ⟨_, ⟨i0, a1, a2, a3, a4⟩, h5⟩ := h
    exact ⟨i0, a1, by omega, a4, Or.inr ⟨a2, a3, h5⟩⟩
  obtain ⟨N, hN12, hN64, hgood, hlast⟩ := hN
  have HGOOD : Hid _ := hgood
  have HLAST : Hid _ := hlast
  clear hgood hlast HCASE hh b5 b8 b9 b11 b53
  go_wp2_with fail
  go_loopw [10] (fun i wr => ∃ k : Nat, 12 ≤ k ∧ k ≤ N ∧ i = .int .i64 k ∧ Below wc.heap.size wc wr) (fun i _ => 64 - (intOf i).toNat)
  case atStart => exact ⟨12, by omega, hN12, rfl, Below.refl _ _⟩
  case round =>
   obtain ⟨k, hk12, hkN, rfl, hR⟩ := hrel
   have kr := (hR.block K (by simpa using sk)).trans HKX.out
   have zr := (hR.block w.heap.size (by simpa using sw)).trans HZX.out
   have ar := (hR.block w1.heap.size (by simpa using s1)).trans HAX.out
   have hBr : Below w.heap.size w wr := below_tr hBx hR
   clear m0 m1 m2 m3 m4 m5 m6 mf g0 g1 g2 g3 g4 g5 g6 gf p1 p5 p8 p9 p11 p53
   by_cases hkn : k < N
   ·have hlt : (k : Int) < 64 := by omega
    have hlt2 : k < 64 := by omega
    have hck : wr.cell? ⟨w1.heap.size, k, none⟩ = some (.bool (x.testBit k)) := by
     rw [cell_of_row _ _ _ _ _ _ ar, arr_get _ _ hlt2]
    have hgd := HGOOD.out k hk12 hkn
    cases hb : x.testBit k
    ·rw [hb] at hck
     clear hgd hb kr zr ar
     go_wp2
     exact ⟨⟨k + 1, by omega, by omega, by go_num, hR⟩, by simp [intOf]; omega⟩
    ·rw [hb] at hck
     have hq : ¬ (k : Int) < L ∧ ¬ (47 < k ∧ k ≠ 53 ∧ k ≠ 54) := ⟨fun h => hgd ⟨hb, Or.inl h⟩, fun h => hgd ⟨hb, Or.inr h⟩⟩
     obtain ⟨q1, q2⟩ := hq
     have d1 : decide ((k : Int) < L) = false := decide_eq_false q1
     clear hgd hb kr zr ar
     by_cases h47 : 47 < k
     ·have r1 : 47 < (k : Int) := by omega
      have r2 : decide (47 < (k : Int)) = true := decide_eq_true r1
      by_cases h53 : k = 53
      ·subst h53
       clear q2
       go_wp2_with fail
       refine (cL _).mono ?_
       rintro e w5 ⟨rfl, hb5⟩
       go_wp2
       exact ⟨⟨53 + 1, by omega, by omega, by go_num, below_tr hR hb5⟩, by simp [intOf]⟩
      ·have h54 : k = 54 := by omega
       subst h54
       clear q2 h53
       go_wp2_with fail
       refine (cL _).mono ?_
       rintro e w5 ⟨rfl, hb5⟩
       go_wp2
       exact ⟨⟨54 + 1, by omega, by omega, by go_num, below_tr hR hb5⟩, by simp [intOf]⟩
     ·have r1 : ¬ 47 < (k : Int) := by omega
      have r2 : decide (47 < (k : Int)) = false := decide_eq_false r1
      clear q2
      go_wp2_with fail
      refine (cL _).mono ?_
      rintro e w5 ⟨rfl, hb5⟩
      go_wp2
      exact ⟨⟨k + 1, by omega, by omega, by go_num, below_tr hR hb5⟩, by simp [intOf]; omega⟩
   ·have ek : k = N := by omega
    subst ek
    rcases HLAST.out with ⟨e64, eR, eok⟩ | ⟨hlt2, ⟨hb, hq⟩, eR, eok⟩
    ·subst e64
     subst eR eok
     obtain ⟨⟨m0, m1, m2, m3, m4, m5, m6⟩, mf⟩ := cells7 kr
     obtain ⟨⟨g0, g1, g2, g3, g4, g5, g6⟩, gf⟩ := cells7 zr
     have HZR : Hid _ := zr
     clear kr zr ar HGOOD HLAST cL
     go_wp2
     refine bodyPost_ret (v := .tuple #[dv 2 O (x.testBit 6) (!x.testBit 7) (!x.testBit 54) (x.testBit 10) (A : Int), .bool true]) ?_ rfl ⟨rfl, below7 hBr (Nat.le_refl _) _ _ _ _ _ _ _⟩
     exact results_row_tmp (p := 4) (u := 5) rfl _ _ w.heap.size 98 _ _ _ rfl (row7 _ _ _ _ _ _ _ HZR.out) Tryz.underlying98 rfl (by kernel_rfl)
    ·subst eR eok
     have hlt : (k : Int) < 64 := by omega
     have hck : wr.cell? ⟨w1.heap.size, k, none⟩ = some (.bool true) := by
      rw [cell_of_row _ _ _ _ _ _ ar, arr_get _ _ hlt2, hb]
     have HZR : Hid _ := zr
     clear kr zr ar HGOOD HLAST hb hkn
     by_cases q1 : (k : Int) < L
     ·have d1 : decide ((k : Int) < L) = true := decide_eq_true q1
      clear hq
      go_wp2_with fail
      refine (cL _).mono ?_
      rintro e w5 ⟨rfl, hb5⟩
      have zr5 := (hb5.block w.heap.size (by have h5 := hR.size; (try simp at h5); omega)).trans HZR.out
      have hB5 : Below w.heap.size w w5 := below_tr hBr hb5
      obtain ⟨⟨g0, g1, g2, g3, g4, g5, g6⟩, gf⟩ := cells7 zr5
      have HZ5 : Hid _ := zr5
      clear zr5
      go_wp2
      refine bodyPost_ret (v := .tuple #[dv 0 0 false false false false 0, .bool false]) ?_ rfl ⟨rfl, below7 hB5 (Nat.le_refl _) _ _ _ _ _ _ _⟩
      exact results_row_tmp (p := 4) (u := 5) rfl _ _ w.heap.size 98 _ _ _ rfl (row7 _ _ _ _ _ _ _ HZ5.out) Tryz.underlying98 rfl (by kernel_rfl)
     ·have d1 : decide ((k : Int) < L) = false := decide_eq_false q1
      have hq2 : 47 < k ∧ k ≠ 53 ∧ k ≠ 54 := by
       rcases hq with h | h
       ·exact absurd h q1
       ·exact h
      obtain ⟨r0, r53, r54⟩ := hq2
      have r1 : 47 < (k : Int) := by omega
      have r2 : decide (47 < (k : Int)) = true := decide_eq_true r1
      have t53 : ((k : Int) != 53) = true := by rw [bne_iff_ne]; omega
      have t54 : ((k : Int) != 54) = true := by rw [bne_iff_ne]; omega
      clear hq
      go_wp2_with fail
      refine (cL _).mono ?_
      rintro e w5 ⟨rfl, hb5⟩
      have zr5 := (hb5.block w.heap.size (by have h5 := hR.size; (try simp at h5); omega)).trans HZR.out
      have hB5 : Below w.heap.size w w5 := below_tr hBr hb5
      obtain ⟨⟨g0, g1, g2, g3, g4, g5, g6⟩, gf⟩ := cells7 zr5
      have HZ5 : Hid _ := zr5
      clear zr5
      go_wp2
      refine bodyPost_ret (v := .tuple #[dv 0 0 false false false false 0, .bool false]) ?_ rfl ⟨rfl, below7 hB5 (Nat.le_refl _) _ _ _ _ _ _ _⟩
      exact results_row_tmp (p := 4) (u := 5) rfl _ _ w.heap.size 98 _ _ _ rfl (row7 _ _ _ _ _ _ _ HZ5.out) Tryz.underlying98 rfl (by kernel_rfl)
end Go.Proofs.YtfohjkgheeiinaaGreatDoor
