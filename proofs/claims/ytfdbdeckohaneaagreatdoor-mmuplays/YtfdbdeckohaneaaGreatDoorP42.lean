/- P42 -/
import Derived.Test.YtfdbdeckohaneaaGreatDoorP05
import Derived.Deep.DeepCutAuto
import Derived.Test.YtfdbdeckohaneaaGreatDoorP15
set_option maxHeartbeats 16000000
set_option maxRecDepth 100000
namespace Go.Proofs.YtfdbdeckohaneaaGreatDoor
open Go.RowKit
theorem qeb (c : Bool) (y i j : Nat) : (orN c y (2 ^ i)).testBit j = (y.testBit j || (c && decide (i = j))) := by
 unfold orN
 cases c
 ·simp
 ·rw [if_pos rfl, Nat.testBit_or, Nat.testBit_two_pow, Bool.true_and]
theorem qes (y i j : Nat) : (y ||| 2 ^ i).testBit j = (y.testBit j || decide (i = j)) := by
 rw [Nat.testBit_or, Nat.testBit_two_pow]
theorem leafConst (j : Nat) : (9007199254743808 : Nat).testBit j = (decide (8 = j) || decide (9 = j) || decide (11 = j) || decide (53 = j)) := by
 have e : (9007199254743808 : Nat) = 2 ^ 8 ||| 2 ^ 9 ||| 2 ^ 11 ||| 2 ^ 53 := by decide +kernel
 rw [e, Nat.testBit_or, Nat.testBit_or, Nat.testBit_or, Nat.testBit_two_pow, Nat.testBit_two_pow, Nat.testBit_two_pow, Nat.testBit_two_pow]
theorem leafP_testBit (o a j : Nat) (ha : a ≤ 7) : (leafP o a).testBit j = (if 2 ≤ j ∧ j < 5 then a.testBit (j - 2) else (decide (j < 64) && (o.testBit j || (decide (8 = j) || decide (9 = j) || decide (11 = j) || decide (53 = j))))) := by
 show (putX ((2 : Nat) : Int) ((3 : Nat) : Int) (o ||| 9007199254743808) a).testBit j = _
 rw [putX_eq right23 (show a < 2 ^ 3 by omega), putV_testBit right23 _ _ _ (show a < 2 ^ 3 by omega), Nat.testBit_or, leafConst]
theorem leafN_testBit (o : Nat) (u r x s : Bool) (a j : Nat) (ha : a ≤ 7) :
  (qem o u r x s a).testBit j = ((((((if 2 ≤ j ∧ j < 5 then a.testBit (j - 2) else (decide (j < 64) && (o.testBit j || (decide (8 = j) || decide (9 = j) || decide (11 = j) || decide (53 = j))))) || (u && decide (6 = j))) || (!r && decide (7 = j))) || (s && decide (10 = j))) || (!x && decide (54 = j)))) := by
 unfold qem
 rw [show (64 : Nat) = 2 ^ 6 from rfl, show (128 : Nat) = 2 ^ 7 from rfl, show (1024 : Nat) = 2 ^ 10 from rfl, show (18014398509481984 : Nat) = 2 ^ 54 from by decide +kernel]
 rw [qeb, qeb, qeb, qeb, leafP_testBit o a j ha]
theorem qcr (x i : Nat) : (outV x).testBit i = (x.testBit i && decide (12 ≤ i ∧ i < 48)) := by
 show (x &&& qcn ((12 : Nat) : Int) ((36 : Nat) : Int)).testBit i = _
 rw [Nat.testBit_and, qdi (by decide)]
theorem getA_testBit (x i : Nat) : (getV 2 3 x).testBit i = (decide (i < 3) && x.testBit (2 + i)) := getV_testBit (l := 2) (n := 3) (by decide) x i
theorem enc_rd (x j : Nat) (p : Bool) (hj : j < 64) :
  (orN p (qem (outV x) (x.testBit 6) (!x.testBit 7) (!x.testBit 54) (x.testBit 10) (getV 2 3 x) ||| 2 ^ 0) (2 ^ 1)).testBit j =
   (if j = 0 then true else if j = 1 then p else if j = 5 then false else if j = 8 ∨ j = 9 ∨ j = 11 ∨ j = 53 then true else if j < 48 ∨ j = 54 then x.testBit j else false) := by
 rw [qeb, qes, leafN_testBit _ _ _ _ _ _ _ (qer x), qcr, getA_testBit]
 by_cases h12 : j < 12
 ·rcases (show j = 0 ∨ j = 1 ∨ j = 2 ∨ j = 3 ∨ j = 4 ∨ j = 5 ∨ j = 6 ∨ j = 7 ∨ j = 8 ∨ j = 9 ∨ j = 10 ∨ j = 11 by omega) with rfl | rfl | rfl | rfl | rfl | rfl | rfl | rfl | rfl | rfl | rfl | rfl <;> simp
 ·by_cases h48 : j < 48
  ·have e : ∀ k, k < 12 ∨ 47 < k → decide (k = j) = false := fun k hk => decide_eq_false (by omega)
   rw [if_neg (show ¬ (2 ≤ j ∧ j < 5) by omega), e 8 (by omega), e 9 (by omega), e 11 (by omega), e 53 (by omega), e 6 (by omega), e 7 (by omega), e 10 (by omega), e 54 (by omega), e 0 (by omega), e 1 (by omega),
    if_neg (show ¬ j = 0 by omega), if_neg (show ¬ j = 1 by omega), if_neg (show ¬ j = 5 by omega), if_neg (show ¬ (j = 8 ∨ j = 9 ∨ j = 11 ∨ j = 53) by omega), if_pos (show j < 48 ∨ j = 54 by omega), decide_eq_true hj, decide_eq_true (show 12 ≤ j ∧ j < 48 by omega)]
   simp
  ·by_cases h53 : j = 53
   ·subst h53; simp
   ·by_cases h54 : j = 54
    ·subst h54; simp
    ·have e : ∀ k, k < 12 ∨ k = 53 ∨ k = 54 → decide (k = j) = false := fun k hk => decide_eq_false (by omega)
     rw [if_neg (show ¬ (2 ≤ j ∧ j < 5) by omega), e 8 (by omega), e 9 (by omega), e 11 (by omega), e 53 (by omega), e 6 (by omega), e 7 (by omega), e 10 (by omega), e 54 (by omega), e 0 (by omega), e 1 (by omega),
      if_neg (show ¬ j = 0 by omega), if_neg (show ¬ j = 1 by omega), if_neg (show ¬ j = 5 by omega), if_neg (show ¬ (j = 8 ∨ j = 9 ∨ j = 11 ∨ j = 53) by omega), if_neg (show ¬ (j < 48 ∨ j = 54) by omega), decide_eq_false (show ¬ (12 ≤ j ∧ j < 48) by omega)]
     simp
theorem qex (f : Nat → Bool) : (Tryz.prog.info? 209).map (·.size) = some (arr f).size := by
 rw [qby]; kernel_rfl
theorem cGet (l n : Nat) (h : qbj (l : Int) (n : Int) = true) (y : Nat) (hy : y < 18446744073709551616) (w : World) :
  Calls Tryz.prog 95 #[.int .u64 y, .int .i64 l, .int .i64 n] w fun e w' => e = .returned (.int .u64 ((getV l n y : Nat) : Int)) ∧ Below w.heap.size w w' := by
 have c := refGet_any y l n hy (by have := qdz h; omega) w
 rw [getV_eq h] at c
 exact c
abbrev zeros : Array Value := #[.int .i64 0, .int .u64 0, .bool false, .bool false, .bool false, .bool false, .int .i64 0]
theorem rdec_inv (l : Int) (x : Nat) (hx : x < 18446744073709551616) (h0 : x.testBit 0 = false) (w : World) :
  Calls Tryz.prog 110 #[.int .i64 l, .int .u64 x] w fun e w' => e = .returned (.tuple #[dv 0 0 false false false false 0, .bool true]) ∧ Below w.heap.size w w' := by
 go_enter Tryz.func110, Tryz.ntmps110
 go_wp2_with fail
 refine (qfm x hx _).mono ?_
 rintro e w1 ⟨rfl, hb1⟩
 have hsz : w.heap.size < w1.heap.size := by have := hb1.size; simp at this; omega
 have hz : w1.heap[w.heap.size]? = some (.cells zeros 92 (0, 0)) := by
  rw [hb1.block _ (by simp)]; exact heap_alloc_new _ _
 have hB : Below w.heap.size w w1 := qab (qac _ _) hb1
 obtain ⟨⟨g0, g1, g2, g3, g4, g5, g6⟩, gf⟩ := qbw hz
 have HZ : Hid _ := hz
 have hc : (w1.alloc (.cells (arr x.testBit) 209)).cell? ⟨w1.heap.size, 0, none⟩ = some (.bool false) := by
  rw [cell_of_row _ _ _ _ _ _ (heap_alloc_new _ _), qbv _ _ (by omega), h0]
 clear hb1 hz
 go_wp2_with (first
  | (refine wpList_store_row rfl 209 _ _ rfl w1.heap.size (arr x.testBit) rfl rfl 209 _ (heap_alloc_new _ _) (qex _) (by rw [qby]; rfl) (arr_one _) ?_; rw [World.setRow_alloc_new]))
 refine bodyPost_ret (v := .tuple #[dv 0 0 false false false false 0, .bool true]) ?_ rfl ⟨rfl, (qcx hB (Nat.le_refl _) _ _ _ _ _ _ _).alloc (by simp; omega) _⟩
 exact qaw (p := 4) (u := 5) rfl _ _ w.heap.size 92 _ _ _ rfl ((heap_alloc_old _ _ (by simpa using hsz)).trans (row7 _ _ _ _ _ _ _ HZ.out)) Tryz.underlying92 rfl (by kernel_rfl)
def tabBad (x i : Nat) : Prop := x.testBit i = true ∧ (i < 12 ∨ 47 < i)
theorem g1236' (y : Nat) : getV 12 36 y = y / 4096 % 68719476736 := getV_mod (l := 12) (n := 36) (by decide) y
theorem out_wrap (x : Nat) : IntKind.u64.wrap (((getV 12 36 x : Nat) : Int) * 4096) = ((outV x : Nat) : Int) := by
 rw [IntKind.wrap_u64, outV_mod, g1236']; omega
theorem rdec_tab (l : Int) (x : Nat) (hx : x < 18446744073709551616) (h0 : x.testBit 0 = true) (h1 : x.testBit 1 = true) (h3 : l < 3) (hok : ∀ i, 2 ≤ i → i < 64 → ¬ tabBad x i) (w : World) :
  Calls Tryz.prog 110 #[.int .i64 l, .int .u64 x] w fun e w' => e = .returned (.tuple #[dv 1 (outV x) false false false false 0, .bool true]) ∧ Below w.heap.size w w' := by
 have d3 : decide (l < 3) = true := decide_eq_true h3
 have cG : ∀ w1, Calls Tryz.prog 95 #[.int .u64 x, .int .i64 12, .int .i64 36] w1 fun e w' => e = .returned (.int .u64 ((getV 12 36 x : Nat) : Int)) ∧ Below w1.heap.size w1 w' := fun w1 => cGet 12 36 (by decide) x hx w1
 have hw := out_wrap x
 generalize getV 12 36 x = G at *
 generalize outV x = O at *
 go_enter Tryz.func110, Tryz.ntmps110
 go_wp2_with fail
 refine (qfm x hx _).mono ?_
 rintro e w1 ⟨rfl, hb1⟩
 have hsz : w.heap.size < w1.heap.size := by have := hb1.size; simp at this; omega
 have hz : w1.heap[w.heap.size]? = some (.cells zeros 92 (0, 0)) := by
  rw [hb1.block _ (by simp)]; exact heap_alloc_new _ _
 have hB : Below w.heap.size w w1 := qab (qac _ _) hb1
 have hc : (w1.alloc (.cells (arr x.testBit) 209)).cell? ⟨w1.heap.size, 0, none⟩ = some (.bool true) := by
  rw [cell_of_row _ _ _ _ _ _ (heap_alloc_new _ _), qbv _ _ (by omega), h0]
 clear hb1
 go_wp2_with (first
  | (refine wpList_store_row rfl 209 _ _ rfl w1.heap.size (arr x.testBit) rfl rfl 209 _ (heap_alloc_new _ _) (qex _) (by rw [qby]; rfl) (arr_one _) ?_; rw [World.setRow_alloc_new]))
 refine (cG _).mono ?_
 rintro e w2 ⟨rfl, hb2⟩
 have ha2 : w2.heap[w1.heap.size]? = some (.cells (arr x.testBit) 209 (0, 0)) := by
  rw [hb2.block _ (by simp)]; exact heap_alloc_new _ _
 have hz2 : w2.heap[w.heap.size]? = some (.cells zeros 92 (0, 0)) := by
  rw [hb2.block _ (by simp; omega), heap_alloc_old _ _ hsz]; exact hz
 have hB2 : Below w.heap.size w w2 := qab (hB.alloc hB.size _) hb2
 have hcell : ∀ i, i < 64 → w2.cell? ⟨w1.heap.size, i, none⟩ = some (.bool (x.testBit i)) := fun i hi => by
  rw [cell_of_row _ _ _ _ _ _ ha2, qbv _ _ hi]
 clear hb2 hz hB hc cG
 have hc1 := hcell 1 (by omega)
 rw [h1] at hc1
 clear ha2
 obtain ⟨⟨g0, g1, g2, g3, g4, g5, g6⟩, gf⟩ := qbw hz2
 have HZ : Hid _ := hz2
 have HC : Hid _ := hcell
 clear hz2 hcell h0 h1
 go_wp2_with fail
 go_loop [8] (fun i => ∃ k : Nat, 2 ≤ k ∧ k ≤ 64 ∧ i = .int .i64 k) (fun i => 64 - (intOf i).toNat)
 case atStart => exact ⟨2, by omega, by omega, rfl⟩
 case round =>
  obtain ⟨k, hk2, hk, rfl⟩ := hrel
  by_cases hlt : k < 64
  ·have hck := HC.out k hlt
   have hn := hok k hk2 hlt
   cases hb : x.testBit k
   ·rw [hb] at hck
    clear hn hb hok
    go_wp2
    exact ⟨⟨k + 1, by omega, by omega, by go_num⟩, by simp [intOf]; omega⟩
   ·rw [hb] at hck
    have hr : 12 ≤ k ∧ k ≤ 47 := by
     by_cases q : k < 12 ∨ 47 < k
     ·exact absurd ⟨hb, q⟩ hn
     ·omega
    obtain ⟨hr1, hr2⟩ := hr
    have r1 : ¬ (k : Int) < 12 := by omega
    have r2 : ¬ 47 < (k : Int) := by omega
    have r3 : ¬ k < 12 := by omega
    have r4 : ¬ 47 < k := by omega
    have r5 : decide ((k : Int) < 12) = false := decide_eq_false r1
    have r6 : decide (47 < (k : Int)) = false := decide_eq_false r2
    clear hn hb hok
    go_wp2
    exact ⟨⟨k + 1, by omega, by omega, by go_num⟩, by simp [intOf]; omega⟩
  ·have e64 : k = 64 := by omega
   subst e64
   clear hok
   go_wp2
   refine bodyPost_ret (v := .tuple #[dv 1 O false false false false 0, .bool true]) ?_ rfl ⟨rfl, qcx hB2 (Nat.le_refl _) _ _ _ _ _ _ _⟩
   exact qaw (p := 4) (u := 5) rfl _ _ w.heap.size 92 _ _ _ rfl (row7 _ _ _ _ _ _ _ HZ.out) Tryz.underlying92 rfl (by kernel_rfl)
theorem zP42x03 {Z : Prop} (z : Z := by
 clear hq hmin hb hki hk
 go_wp2
 refine bodyPost_ret (v := .tuple #[dv 0 0 false false false false 0, .bool false]) ?_ rfl ⟨rfl, qcx hB2 (Nat.le_refl _) _ _ _ _ _ _ _⟩
 exact qaw (p := 4) (u := 5) rfl _ _ w.heap.size 92 _ _ _ rfl (row7 _ _ _ _ _ _ _ HZ.out) Tryz.underlying92 rfl (by kernel_rfl)) : Z := z
theorem rdec_tabBad (l : Int) (x : Nat) (hx : x < 18446744073709551616) (h0 : x.testBit 0 = true) (h1 : x.testBit 1 = true) (h3 : l < 3) (i0 : Nat) (hi2 : 2 ≤ i0) (hi64 : i0 < 64) (hbad : tabBad x i0) (hmin : ∀ i, 2 ≤ i → i < i0 → ¬ tabBad x i) (w : World) :
  Calls Tryz.prog 110 #[.int .i64 l, .int .u64 x] w fun e w' => e = .returned (.tuple #[dv 0 0 false false false false 0, .bool false]) ∧ Below w.heap.size w w' := by
 have d3 : decide (l < 3) = true := decide_eq_true h3
 have cG : ∀ w1, Calls Tryz.prog 95 #[.int .u64 x, .int .i64 12, .int .i64 36] w1 fun e w' => e = .returned (.int .u64 ((getV 12 36 x : Nat) : Int)) ∧ Below w1.heap.size w1 w' := fun w1 => cGet 12 36 (by decide) x hx w1
 have hw := out_wrap x
 generalize getV 12 36 x = G at *
 generalize outV x = O at *
 go_enter Tryz.func110, Tryz.ntmps110
 go_wp2_with fail
 refine (qfm x hx _).mono ?_
 rintro e w1 ⟨rfl, hb1⟩
 have hsz : w.heap.size < w1.heap.size := by have := hb1.size; simp at this; omega
 have hz : w1.heap[w.heap.size]? = some (.cells zeros 92 (0, 0)) := by
  rw [hb1.block _ (by simp)]; exact heap_alloc_new _ _
 have hB : Below w.heap.size w w1 := qab (qac _ _) hb1
 have hc : (w1.alloc (.cells (arr x.testBit) 209)).cell? ⟨w1.heap.size, 0, none⟩ = some (.bool true) := by
  rw [cell_of_row _ _ _ _ _ _ (heap_alloc_new _ _), qbv _ _ (by omega), h0]
 clear hb1
 go_wp2_with (first
  | (refine wpList_store_row rfl 209 _ _ rfl w1.heap.size (arr x.testBit) rfl rfl 209 _ (heap_alloc_new _ _) (qex _) (by rw [qby]; rfl) (arr_one _) ?_; rw [World.setRow_alloc_new]))
 refine (cG _).mono ?_
 rintro e w2 ⟨rfl, hb2⟩
 have ha2 : w2.heap[w1.heap.size]? = some (.cells (arr x.testBit) 209 (0, 0)) := by
  rw [hb2.block _ (by simp)]; exact heap_alloc_new _ _
 have hz2 : w2.heap[w.heap.size]? = some (.cells zeros 92 (0, 0)) := by
  rw [hb2.block _ (by simp; omega), heap_alloc_old _ _ hsz]; exact hz
 have hB2 : Below w.heap.size w w2 := qab (hB.alloc hB.size _) hb2
 have hcell : ∀ i, i < 64 → w2.cell? ⟨w1.heap.size, i, none⟩ = some (.bool (x.testBit i)) := fun i hi => by
  rw [cell_of_row _ _ _ _ _ _ ha2, qbv _ _ hi]
 clear hb2 hz hB hc cG
 have hc1 := hcell 1 (by omega)
 rw [h1] at hc1
 clear ha2
 obtain ⟨⟨g0, g1, g2, g3, g4, g5, g6⟩, gf⟩ := qbw hz2
 have HZ : Hid _ := hz2
 have HC : Hid _ := hcell
 clear hz2 hcell h0 h1
 go_wp2_with fail
 go_loop [8] (fun i => ∃ k : Nat, 2 ≤ k ∧ k ≤ i0 ∧ i = .int .i64 k) (fun i => 64 - (intOf i).toNat)
 case atStart => exact ⟨2, by omega, by omega, rfl⟩
 case round =>
  obtain ⟨k, hk2, hk, rfl⟩ := hrel
  have hck := HC.out k (by omega)
  have hlt : (k : Int) < 64 := by omega
  have hlt2 : k < 64 := by omega
  by_cases hki : k < i0
  ·have hn := hmin k hk2 hki
   cases hb : x.testBit k
   ·rw [hb] at hck
    clear hn hb hmin hbad
    go_wp2
    exact ⟨⟨k + 1, by omega, by omega, by go_num⟩, by simp [intOf]; omega⟩
   ·rw [hb] at hck
    have hr : 12 ≤ k ∧ k ≤ 47 := by
     by_cases q : k < 12 ∨ 47 < k
     ·exact absurd ⟨hb, q⟩ hn
     ·omega
    obtain ⟨hr1, hr2⟩ := hr
    have r1 : ¬ (k : Int) < 12 := by omega
    have r2 : ¬ 47 < (k : Int) := by omega
    have r3 : ¬ k < 12 := by omega
    have r4 : ¬ 47 < k := by omega
    have r5 : decide ((k : Int) < 12) = false := decide_eq_false r1
    have r6 : decide (47 < (k : Int)) = false := decide_eq_false r2
    clear hn hb hmin hbad
    go_wp2
    exact ⟨⟨k + 1, by omega, by omega, by go_num⟩, by simp [intOf]; omega⟩
  ·have ek : k = i0 := by omega
   subst ek
   obtain ⟨hb, hq⟩ := hbad
   rw [hb] at hck
   by_cases q : k < 12
   ·have r1 : (k : Int) < 12 := by omega
    have r5 : decide ((k : Int) < 12) = true := decide_eq_true r1
    exact zP42x03
   ·have r1 : ¬ (k : Int) < 12 := by omega
    have r5 : decide ((k : Int) < 12) = false := decide_eq_false r1
    have r2 : 47 < (k : Int) := by omega
    have r4 : 47 < k := by omega
    have r6 : decide (47 < (k : Int)) = true := decide_eq_true r2
    exact zP42x03
def qdu (l : Int) (x i : Nat) : Prop := x.testBit i = true ∧ ((i : Int) < lowL l ∨ (47 < i ∧ i ≠ 53 ∧ i ≠ 54))
def qcl (x : Nat) : Bool := x.testBit 8 && x.testBit 9 && x.testBit 11 && x.testBit 53 && !x.testBit 5
theorem heap_drew (W : World) : W.drew.heap = W.heap := rfl
theorem qda {w : World} {a : Addr} {v : Value} (h : w.cell? a = some v) : w.drew.cell? a = some v := cell_later (Below.refl _ _).drew h
theorem cell7 {w1 : World} {b g i : Nat} {v v0 v1 v2 v3 v4 v5 v6 : Value} (hne : b ≠ g) (h : w1.cell? ⟨b, i, none⟩ = some v) :
  (((((((w1.setCell ⟨g, 0, none⟩ v0).setCell ⟨g, 1, none⟩ v1).setCell ⟨g, 2, none⟩ v2).setCell ⟨g, 3, none⟩ v3).setCell ⟨g, 4, none⟩ v4).setCell ⟨g, 5, none⟩ v5).setCell ⟨g, 6, none⟩ v6).cell? ⟨b, i, none⟩ = some v := by
 have hn : g ≠ b := fun e => hne e.symm
 rw [World.cell?_setCell_far _ _ _ _ hn, World.cell?_setCell_far _ _ _ _ hn, World.cell?_setCell_far _ _ _ _ hn, World.cell?_setCell_far _ _ _ _ hn, World.cell?_setCell_far _ _ _ _ hn, World.cell?_setCell_far _ _ _ _ hn, World.cell?_setCell_far _ _ _ _ hn]
 exact h
theorem zP42x01 {Z : Prop} (z : Z := by
 obtain ⟨k, hk12, hkN, rfl, hR⟩ := hrel
 have kr := (hR.block K (by simpa using sk)).trans HKX.out
 have zr := (hR.block w.heap.size (by simpa using sw)).trans HZX.out
 have ar := (hR.block w1.heap.size (by simpa using s1)).trans HAX.out
 have hBr : Below w.heap.size w wr := qab hBx hR
 clear m0 m1 m2 m3 m4 m5 m6 mf g0 g1 g2 g3 g4 g5 g6 gf p1 p5 p8 p9 p11 p53
 by_cases hkn : k < N
 ·have hlt : (k : Int) < 64 := by omega
  have hlt2 : k < 64 := by omega
  have hck : wr.cell? ⟨w1.heap.size, k, none⟩ = some (.bool (x.testBit k)) := by
   rw [cell_of_row _ _ _ _ _ _ ar, qbv _ _ hlt2]
  have hgd := HGOOD.out k hk12 hkn
  cases hb : x.testBit k
  ·rw [hb] at hck
   clear hgd hb kr zr ar
   go_wp2
   exact ⟨⟨k + 1, by omega, by omega, by go_num, hR⟩, by simp [intOf]; omega⟩
  ·rw [hb] at hck
   have hq : ¬ (k : Int) < L ∧ ¬ (47 < k ∧ k ≠ 53 ∧ k ≠ 54) := ⟨fun h => hgd ⟨hb, Or.inl h⟩, fun h => hgd ⟨hb, Or.inr h⟩⟩
   obtain ⟨q1, q2⟩ := hq
   have d1 : decide ((k : Int) < L) = false := decide_eq_false q1
   clear hgd hb kr zr ar
   by_cases h47 : 47 < k
   ·have r1 : 47 < (k : Int) := by omega
    have r2 : decide (47 < (k : Int)) = true := decide_eq_true r1
    by_cases h53 : k = 53
    ·subst h53
     clear q2
     go_wp2_with fail
     refine (cL _).mono ?_
     rintro e w5 ⟨rfl, hb5⟩
     go_wp2
     exact ⟨⟨53 + 1, by omega, by omega, by go_num, qab hR hb5⟩, by simp [intOf]⟩
    ·have h54 : k = 54 := by omega
     subst h54
     clear q2 h53
     go_wp2_with fail
     refine (cL _).mono ?_
     rintro e w5 ⟨rfl, hb5⟩
     go_wp2
     exact ⟨⟨54 + 1, by omega, by omega, by go_num, qab hR hb5⟩, by simp [intOf]⟩
   ·have r1 : ¬ 47 < (k : Int) := by omega
    have r2 : decide (47 < (k : Int)) = false := decide_eq_false r1
    clear q2
    go_wp2_with fail
    refine (cL _).mono ?_
    rintro e w5 ⟨rfl, hb5⟩
    go_wp2
    exact ⟨⟨k + 1, by omega, by omega, by go_num, qab hR hb5⟩, by simp [intOf]; omega⟩
 ·have ek : k = N := by omega
  subst ek
  rcases HLAST.out with ⟨e64, eR, eok⟩ | ⟨hlt2, ⟨hb, hq⟩, eR, eok⟩
  ·subst e64
   subst eR eok
   obtain ⟨⟨m0, m1, m2, m3, m4, m5, m6⟩, mf⟩ := qbw kr
   obtain ⟨⟨g0, g1, g2, g3, g4, g5, g6⟩, gf⟩ := qbw zr
   have HZR : Hid _ := zr
   clear kr zr ar HGOOD HLAST cL
   go_wp2
   first
   | refine bodyPost_ret (v := .tuple #[dv 2 O (x.testBit 6) (!x.testBit 7) (!x.testBit 54) (x.testBit 10) (A : Int), .bool true]) ?_ rfl ⟨rfl, qcx hBr (Nat.le_refl _) _ _ _ _ _ _ _⟩
   | refine bodyPost_ret (v := .tuple #[dv 3 O (x.testBit 6) (!x.testBit 7) (!x.testBit 54) (x.testBit 10) (A : Int), .bool true]) ?_ rfl ⟨rfl, qcx hBr (Nat.le_refl _) _ _ _ _ _ _ _⟩
   exact qaw (p := 4) (u := 5) rfl _ _ w.heap.size 92 _ _ _ rfl (row7 _ _ _ _ _ _ _ HZR.out) Tryz.underlying92 rfl (by kernel_rfl)
  ·subst eR eok
   have hlt : (k : Int) < 64 := by omega
   have hck : wr.cell? ⟨w1.heap.size, k, none⟩ = some (.bool true) := by
    rw [cell_of_row _ _ _ _ _ _ ar, qbv _ _ hlt2, hb]
   have HZR : Hid _ := zr
   clear kr zr ar HGOOD HLAST hb hkn
   by_cases q1 : (k : Int) < L
   ·have d1 : decide ((k : Int) < L) = true := decide_eq_true q1
    clear hq
    go_wp2_with fail
    refine (cL _).mono ?_
    rintro e w5 ⟨rfl, hb5⟩
    have zr5 := (hb5.block w.heap.size (by have h5 := hR.size; (try simp at h5); omega)).trans HZR.out
    have hB5 : Below w.heap.size w w5 := qab hBr hb5
    obtain ⟨⟨g0, g1, g2, g3, g4, g5, g6⟩, gf⟩ := qbw zr5
    have HZ5 : Hid _ := zr5
    clear zr5
    go_wp2
    refine bodyPost_ret (v := .tuple #[dv 0 0 false false false false 0, .bool false]) ?_ rfl ⟨rfl, qcx hB5 (Nat.le_refl _) _ _ _ _ _ _ _⟩
    exact qaw (p := 4) (u := 5) rfl _ _ w.heap.size 92 _ _ _ rfl (row7 _ _ _ _ _ _ _ HZ5.out) Tryz.underlying92 rfl (by kernel_rfl)
   ·have d1 : decide ((k : Int) < L) = false := decide_eq_false q1
    have hq2 : 47 < k ∧ k ≠ 53 ∧ k ≠ 54 := by
     rcases hq with h | h
     ·exact absurd h q1
     ·exact h
    obtain ⟨r0, r53, r54⟩ := hq2
    have r1 : 47 < (k : Int) := by omega
    have r2 : decide (47 < (k : Int)) = true := decide_eq_true r1
    have t53 : ((k : Int) != 53) = true := by rw [bne_iff_ne]; omega
    have t54 : ((k : Int) != 54) = true := by rw [bne_iff_ne]; omega
    clear hq
    go_wp2_with fail
    refine (cL _).mono ?_
    rintro e w5 ⟨rfl, hb5⟩
    have zr5 := (hb5.block w.heap.size (by have h5 := hR.size; (try simp at h5); omega)).trans HZR.out
    have hB5 : Below w.heap.size w w5 := qab hBr hb5
    obtain ⟨⟨g0, g1, g2, g3, g4, g5, g6⟩, gf⟩ := qbw zr5
    have HZ5 : Hid _ := zr5
    clear zr5
    go_wp2
    refine bodyPost_ret (v := .tuple #[dv 0 0 false false false false 0, .bool false]) ?_ rfl ⟨rfl, qcx hB5 (Nat.le_refl _) _ _ _ _ _ _ _⟩
    exact qaw (p := 4) (u := 5) rfl _ _ w.heap.size 92 _ _ _ rfl (row7 _ _ _ _ _ _ _ HZ5.out) Tryz.underlying92 rfl (by kernel_rfl)) : Z := z
theorem zP42x02 {Z : Prop} (z : Z := by
 clear cL
 go_region_held3 (fun w' => w'.cell? ⟨w1.heap.size, 6, none⟩ = some (.bool (x.testBit 6)) ∧ w'.cell? ⟨w1.heap.size, 7, none⟩ = some (.bool (x.testBit 7)) ∧ w'.cell? ⟨w1.heap.size, 10, none⟩ = some (.bool (x.testBit 10)) ∧ w'.cell? ⟨w1.heap.size, 54, none⟩ = some (.bool (x.testBit 54)) ∧ Below w2.heap.size w2 w')
  ((go_split_ands; refine ⟨?_, ?_, ?_, ?_, ?_⟩ <;> first | (with_reducible exact qcx hBw (Nat.le_refl _) _ _ _ _ _ _ _) | (with_reducible exact cell7 hne q6) | (with_reducible exact cell7 hne q7) | (with_reducible exact cell7 hne q10) | (with_reducible exact cell7 hne q54) | (with_reducible assumption) | (with_reducible exact cell_later hbm (by assumption)) | (with_reducible exact qab (by assumption) hbm) | (with_reducible exact qbf (by assumption)) | (with_reducible exact qbf q6) | (with_reducible exact qbf q7) | (with_reducible exact qbf q10) | (with_reducible exact qbf q54) | (with_reducible exact hBw.alloc hBw.size _) | (with_reducible exact Below.alloc (by assumption) (Below.size (by assumption)) _) | (with_reducible exact (qac _ _).drew) | (with_reducible exact (Below.refl _ _).drew) | (with_reducible exact Below.drew (by with_reducible assumption)) | (with_reducible exact qda c6) | (with_reducible exact qda (qbf c6)) | (with_reducible exact qda c7) | (with_reducible exact qda (qbf c7)) | (with_reducible exact qda c10) | (with_reducible exact qda (qbf c10)) | (with_reducible exact qda c54) | (with_reducible exact qda (qbf c54))))
  (first
   | (go_at_call 95; refine (cA _).mono ?_; rintro e w' ⟨rfl, hbm⟩; have hBw : Below w2.heap.size w2 w' := qab (by go_split_ands; first | (with_reducible assumption) | assumption) hbm; (try (have hK : w'.heap[w2.heap.size]? = some (.cells zeros 92 (0, 0)) := (by rw [hbm.block _ (by simp), heap_drew]; exact heap_alloc_new _ _); obtain ⟨⟨j0, j1, j2, j3, j4, j5, j6⟩, jf⟩ := qbw hK)); have q6 := cell_later hbm (by go_split_ands; with_reducible assumption : World.cell? _ ⟨w1.heap.size, 6, none⟩ = some (.bool (x.testBit 6))); have q7 := cell_later hbm (by go_split_ands; with_reducible assumption : World.cell? _ ⟨w1.heap.size, 7, none⟩ = some (.bool (x.testBit 7))); have q10 := cell_later hbm (by go_split_ands; with_reducible assumption : World.cell? _ ⟨w1.heap.size, 10, none⟩ = some (.bool (x.testBit 10))); have q54 := cell_later hbm (by go_split_ands; with_reducible assumption : World.cell? _ ⟨w1.heap.size, 54, none⟩ = some (.bool (x.testBit 54)))))
 all_goals
  go_wp2
  go_meet
  first
   | (with_reducible exact ⟨_, rfl, hBw.alloc hBw.size _, hBw.size, heap_alloc_new _ _⟩)
   | (with_reducible exact ⟨_, rfl, qcx hBw (Nat.le_refl _) _ _ _ _ _ _ _, Nat.le_refl _, row7 _ _ _ _ _ _ _ hK⟩)) : Z := z
theorem zP42x04 {Z : Prop} (z : Z := by
 clear hh2
 go_wp2
 refine bodyPost_ret (v := .tuple #[dv 0 0 false false false false 0, .bool false]) ?_ rfl ⟨rfl, qcx hBx (Nat.le_refl _) _ _ _ _ _ _ _⟩
 exact qaw (p := 4) (u := 5) rfl _ _ w.heap.size 92 _ _ _ rfl (row7 _ _ _ _ _ _ _ HZX.out) Tryz.underlying92 rfl (by kernel_rfl)) : Z := z
theorem zP42x05 {Z : Prop} (z : Z := by
 refine bodyPost_ret (v := .tuple #[dv 0 0 false false false false 0, .bool false]) ?_ rfl ⟨rfl, qcx hBx (Nat.le_refl _) _ _ _ _ _ _ _⟩
 exact qaw (p := 4) (u := 5) rfl _ _ w.heap.size 92 _ _ _ rfl (row7 _ _ _ _ _ _ _ HZX.out) Tryz.underlying92 rfl (by kernel_rfl)) : Z := z
theorem zP42x11 {Z : Prop} (z : Z := by
 clear hh
 cases b8 : x.testBit 8
 ·rw [b8] at p8
  first
  | exact zP42x04
  | exact zP42x06
 rw [b8] at p8
 cases b9 : x.testBit 9
 ·rw [b9] at p9
  first
  | exact zP42x04
  | exact zP42x06
 rw [b9] at p9
 cases b11 : x.testBit 11
 ·rw [b11] at p11
  first
  | exact zP42x04
  | exact zP42x06
 rw [b11] at p11
 cases b53 : x.testBit 53
 ·rw [b53] at p53
  first
  | exact zP42x04
  | exact zP42x06
 rw [b53] at p53
 have b5 : x.testBit 5 = true := by
  unfold qcl at hh2
  rw [b8, b9, b11, b53] at hh2
  simpa using hh2
 rw [b5] at p5
 first
 | exact zP42x04
 | exact zP42x06) : Z := z
theorem rdec_leafB (l : Int) (x : Nat) (hx : x < 18446744073709551616) (h0 : x.testBit 0 = true) (h1 : x.testBit 1 = false) (hl : isLv l = true) (R : Value) (ok : Bool)
  (hcase : ((qcl x && decide (0 < l ∧ l < 3)) = true ∧ (∀ i, 12 ≤ i → i < 64 → ¬ qdu l x i) ∧ R = dv 2 (outV x) (x.testBit 6) (!x.testBit 7) (!x.testBit 54) (x.testBit 10) ((getV 2 3 x : Nat) : Int) ∧ ok = true) ∨
   ((qcl x && decide (0 < l ∧ l < 3)) = false ∧ R = dv 0 0 false false false false 0 ∧ ok = false) ∨
   ((qcl x && decide (0 < l ∧ l < 3)) = true ∧ (∃ i0, 12 ≤ i0 ∧ i0 < 64 ∧ qdu l x i0 ∧ ∀ i, 12 ≤ i → i < i0 → ¬ qdu l x i) ∧ R = dv 0 0 false false false false 0 ∧ ok = false)) (w : World) :
  Calls Tryz.prog 110 #[.int .i64 l, .int .u64 x] w fun e w' => e = .returned (.tuple #[R, .bool ok]) ∧ Below w.heap.size w w' := by
 have cA : ∀ w1, Calls Tryz.prog 95 #[.int .u64 x, .int .i64 2, .int .i64 3] w1 fun e w' => e = .returned (.int .u64 ((getV 2 3 x : Nat) : Int)) ∧ Below w1.heap.size w1 w' := fun w1 => cGet 2 3 (by decide) x hx w1
 have hwa : IntKind.i64.wrap ((getV 2 3 x : Nat) : Int) = ((getV 2 3 x : Nat) : Int) := by have := qer x; rw [IntKind.wrap_i64]; omega
 have cL := fun w1 => refLow_any l hl w1
 unfold qdu at hcase
 generalize lowL l = L at *
 generalize getV 2 3 x = A at *
 have cG : ∀ w1, Calls Tryz.prog 95 #[.int .u64 x, .int .i64 12, .int .i64 36] w1 fun e w' => e = .returned (.int .u64 ((getV 12 36 x : Nat) : Int)) ∧ Below w1.heap.size w1 w' := fun w1 => cGet 12 36 (by decide) x hx w1
 have hw := out_wrap x
 generalize getV 12 36 x = G at *
 generalize outV x = O at *
 have HCASE : Hid _ := hcase
 clear hcase
 go_enter Tryz.func110, Tryz.ntmps110
 go_wp2_with fail
 refine (qfm x hx _).mono ?_
 rintro e w1 ⟨rfl, hb1⟩
 have hsz : w.heap.size < w1.heap.size := by have := hb1.size; simp at this; omega
 have hz : w1.heap[w.heap.size]? = some (.cells zeros 92 (0, 0)) := by
  rw [hb1.block _ (by simp)]; exact heap_alloc_new _ _
 have hB : Below w.heap.size w w1 := qab (qac _ _) hb1
 have hc : (w1.alloc (.cells (arr x.testBit) 209)).cell? ⟨w1.heap.size, 0, none⟩ = some (.bool true) := by
  rw [cell_of_row _ _ _ _ _ _ (heap_alloc_new _ _), qbv _ _ (by omega), h0]
 clear hb1
 go_wp2_with (first
  | (refine wpList_store_row rfl 209 _ _ rfl w1.heap.size (arr x.testBit) rfl rfl 209 _ (heap_alloc_new _ _) (qex _) (by rw [qby]; rfl) (arr_one _) ?_; rw [World.setRow_alloc_new]))
 refine (cG _).mono ?_
 rintro e w2 ⟨rfl, hb2⟩
 have ha2 : w2.heap[w1.heap.size]? = some (.cells (arr x.testBit) 209 (0, 0)) := by
  rw [hb2.block _ (by simp)]; exact heap_alloc_new _ _
 have hz2 : w2.heap[w.heap.size]? = some (.cells zeros 92 (0, 0)) := by
  rw [hb2.block _ (by simp; omega), heap_alloc_old _ _ hsz]; exact hz
 have hB2 : Below w.heap.size w w2 := qab (hB.alloc hB.size _) hb2
 have hcell : ∀ i, i < 64 → w2.cell? ⟨w1.heap.size, i, none⟩ = some (.bool (x.testBit i)) := fun i hi => by
  rw [cell_of_row _ _ _ _ _ _ ha2, qbv _ _ hi]
 clear hb2 hz hB hc cG
 have hc1 := hcell 1 (by omega)
 rw [h1] at hc1
 have c6 := hcell 6 (by omega)
 have c7 := hcell 7 (by omega)
 have c10 := hcell 10 (by omega)
 have c54 := hcell 54 (by omega)
 have hs2 : w1.heap.size < w2.heap.size := World.block_lt_of_cell? _ _ c6
 have hne : w1.heap.size ≠ w2.heap.size := Nat.ne_of_lt hs2
 have HZ2 : Hid _ := hz2
 have HA2 : Hid _ := ha2
 clear hcell hz2 ha2
 go_upto_region 12 with fail
 go_cut [9] (fun t wc => ∃ K, t = .pointer (some ⟨K, 0, none⟩) ∧ Below w2.heap.size w2 wc ∧ w2.heap.size ≤ K ∧ wc.heap[K]? = some (.cells #[.int .i64 2, .int .u64 (O : Int), .bool (x.testBit 6), .bool (!x.testBit 7), .bool (!x.testBit 54), .bool (x.testBit 10), .int .i64 (A : Int)] 92 (0, 0)))
 case first =>
  exact zP42x02
 case rest =>
  obtain ⟨K, rfl, hBc, hKs, hKr⟩ := hcut
  have hz := (hBc.block _ (by omega)).trans HZ2.out
  have ha := (hBc.block _ hs2).trans HA2.out
  have hBw : Below w.heap.size w wc := qab hB2 hBc
  have hcell : ∀ i, i < 64 → wc.cell? ⟨w1.heap.size, i, none⟩ = some (.bool (x.testBit i)) := fun i hi => by
   rw [cell_of_row _ _ _ _ _ _ ha, qbv _ _ hi]
  obtain ⟨⟨m0, m1, m2, m3, m4, m5, m6⟩, mf⟩ := qbw hKr
  obtain ⟨⟨g0, g1, g2, g3, g4, g5, g6⟩, gf⟩ := qbw hz
  have p1 := hcell 1 (by omega)
  rw [h1] at p1
  have p5 := hcell 5 (by omega)
  have p8 := hcell 8 (by omega)
  have p9 := hcell 9 (by omega)
  have p11 := hcell 11 (by omega)
  have p53 := hcell 53 (by omega)
  have HCELL : Hid _ := hcell
  have HZ : Hid _ := hz
  have HA : Hid _ := ha
  have HKR : Hid _ := hKr
  have n1 : w1.heap.size ≠ K := by omega
  have n2 : w.heap.size ≠ K := by omega
  have n3 : K ≠ w1.heap.size := by omega
  have n4 : K ≠ w.heap.size := by omega
  have sw : w.heap.size < wc.heap.size := World.block_lt_of_cell? _ _ g0
  have sk : K < wc.heap.size := World.block_lt_of_cell? _ _ m0
  have s1 : w1.heap.size < wc.heap.size := World.block_lt_of_cell? _ _ p5
  clear hcell hz ha hKr hc1 c6 c7 c10 c54 hne HZ2 HA2 hB2 hBc cA hwa hw
  have HKX : Hid _ := HKR.out
  have HZX : Hid _ := HZ.out
  have HAX : Hid _ := HA.out
  have hBx := hBw
  clear HKR HZ HA
  by_cases hh : (qcl x && decide (0 < l ∧ l < 3)) = true
  rotate_left
  ·have hR : R = dv 0 0 false false false false 0 ∧ ok = false := by
    rcases HCASE.out with h | h | h
    ·exact absurd h.1 hh
    ·exact h.2
    ·exact absurd h.1 hh
   obtain ⟨rfl, rfl⟩ := hR
   clear HCASE cL HKX HAX HCELL
   by_cases e0 : l = 0
   ·subst e0
    clear hh
    go_wp2
    exact zP42x05
   by_cases e3 : l = 3
   ·subst e3
    clear hh e0
    go_wp2
    exact zP42x05
   have f0 : (l == 0) = false := by rw [beq_eq_false_iff_ne]; exact e0
   have f3 : (l == 3) = false := by rw [beq_eq_false_iff_ne]; exact e3
   have hh2 : qcl x = false := by
    have hlv := qdf hl
    have hd : decide (0 < l ∧ l < 3) = true := decide_eq_true (by omega)
    rw [hd, Bool.and_true] at hh
    simpa using hh
   exact zP42x11
  have hq : x.testBit 8 = true ∧ x.testBit 9 = true ∧ x.testBit 11 = true ∧ x.testBit 53 = true ∧ x.testBit 5 = false := by
   have h2 := hh
   rw [Bool.and_eq_true] at h2
   have h2 := h2.1
   unfold qcl at h2
   simp only [Bool.and_eq_true, Bool.not_eq_true'] at h2
   exact ⟨h2.1.1.1.1, h2.1.1.1.2, h2.1.1.2, h2.1.2, h2.2⟩
  obtain ⟨b8, b9, b11, b53, b5⟩ := hq
  rw [b8] at p8
  rw [b9] at p9
  rw [b11] at p11
  rw [b53] at p53
  rw [b5] at p5
  have hlv : 0 < l ∧ l < 3 := by rw [Bool.and_eq_true] at hh; exact of_decide_eq_true hh.2
  have f0 : (l == 0) = false := by rw [beq_eq_false_iff_ne]; omega
  have f3 : (l == 3) = false := by rw [beq_eq_false_iff_ne]; omega
  have f4 : ¬ l = 0 := by omega
  have f5 : ¬ l = 3 := by omega
  clear hlv
  have hN : ∃ N : Nat, 12 ≤ N ∧ N ≤ 64 ∧ (∀ i, 12 ≤ i → i < N → ¬ (x.testBit i = true ∧ ((i : Int) < L ∨ (47 < i ∧ i ≠ 53 ∧ i ≠ 54)))) ∧
    ((N = 64 ∧ R = dv 2 O (x.testBit 6) (!x.testBit 7) (!x.testBit 54) (x.testBit 10) (A : Int) ∧ ok = true) ∨ (N < 64 ∧ (x.testBit N = true ∧ ((N : Int) < L ∨ (47 < N ∧ N ≠ 53 ∧ N ≠ 54))) ∧ R = dv 0 0 false false false false 0 ∧ ok = false)) := by
   rcases HCASE.out with h | h | h
   ·exact ⟨64, by omega, by omega, h.2.1, Or.inl ⟨rfl, h.2.2⟩⟩
   ·exact absurd hh (by rw [h.1]; decide)
   ·obtain ⟨_, ⟨i0, a1, a2, a3, a4⟩, h5⟩ := h
    exact ⟨i0, a1, by omega, a4, Or.inr ⟨a2, a3, h5⟩⟩
  obtain ⟨N, hN12, hN64, hgood, hlast⟩ := hN
  have HGOOD : Hid _ := hgood
  have HLAST : Hid _ := hlast
  clear hgood hlast HCASE hh b5 b8 b9 b11 b53
  go_wp2_with fail
  go_loopw [10] (fun i wr => ∃ k : Nat, 12 ≤ k ∧ k ≤ N ∧ i = .int .i64 k ∧ Below wc.heap.size wc wr) (fun i _ => 64 - (intOf i).toNat)
  case atStart => exact ⟨12, by omega, hN12, rfl, Below.refl _ _⟩
  case round =>
   exact zP42x01
theorem mod_bits (y n : Nat) : y % 2 ^ n = 0 ↔ ∀ i, i < n → y.testBit i = false := by
 constructor
 ·intro h i hi
  have e : (y % 2 ^ n).testBit i = false := by rw [h, Nat.zero_testBit]
  rw [Nat.testBit_mod_two_pow, decide_eq_true hi, Bool.true_and] at e
  exact e
 ·intro h
  apply Nat.eq_of_testBit_eq
  intro i
  rw [Nat.testBit_mod_two_pow, Nat.zero_testBit]
  by_cases hi : i < n
  ·rw [h i hi]; simp
  ·rw [decide_eq_false hi, Bool.false_and]
theorem lt_bits (y n : Nat) (h : ∀ i, n ≤ i → y.testBit i = false) : y < 2 ^ n := Nat.lt_pow_two_of_testBit y h
theorem outV_lt48 (x : Nat) : outV x < 281474976710656 := lt_bits (outV x) 48 fun i hi => by
 rw [qcr, decide_eq_false (show ¬ (12 ≤ i ∧ i < 48) by omega), Bool.and_false]
theorem qeu (x n : Nat) (h1 : 12 ≤ n) (h2 : n < 48) : qct (outV x) (n : Int) = true ↔ ∀ i, 12 ≤ i → i < n → x.testBit i = false := by
 rw [isOut_mod _ _ (outV_lt x) h1 h2, decide_eq_true_eq, mod_bits]
 constructor
 ·rintro ⟨_, h⟩ i a b
  have e := h i b
  rw [qcr, decide_eq_true (show 12 ≤ i ∧ i < 48 by omega), Bool.and_true] at e
  exact e
 ·intro h
  refine ⟨outV_lt48 x, fun i hi => ?_⟩
  rw [qcr]
  by_cases h12 : 12 ≤ i
  ·rw [h i h12 hi, Bool.false_and]
  ·rw [decide_eq_false (show ¬ (12 ≤ i ∧ i < 48) by omega), Bool.and_false]
theorem isOut_low (x : Nat) (l : Int) (hl : isLv l = true) : qct (outV x) (lowL l) = true ↔ ∀ i : Nat, 12 ≤ i → (i : Int) < lowL l → x.testBit i = false := by
 rcases low_lv hl with rfl | rfl | rfl | rfl
 ·exact (qeu x 39 (by omega) (by omega)).trans ⟨fun h i a b => h i a (by have e : lowL 0 = 39 := rfl; omega), fun h i a b => h i a (by have e : lowL 0 = 39 := rfl; omega)⟩
 ·exact (qeu x 30 (by omega) (by omega)).trans ⟨fun h i a b => h i a (by have e : lowL 1 = 30 := rfl; omega), fun h i a b => h i a (by have e : lowL 1 = 30 := rfl; omega)⟩
 ·exact (qeu x 21 (by omega) (by omega)).trans ⟨fun h i a b => h i a (by have e : lowL 2 = 21 := rfl; omega), fun h i a b => h i a (by have e : lowL 2 = 21 := rfl; omega)⟩
 ·exact (qeu x 12 (by omega) (by omega)).trans ⟨fun h i a b => h i a (by have e : lowL 3 = 12 := rfl; omega), fun h i a b => h i a (by have e : lowL 3 = 12 := rfl; omega)⟩
theorem lowL_le {l : Int} (hl : isLv l = true) : 12 ≤ lowL l ∧ lowL l ≤ 39 := by
 rcases low_lv hl with rfl | rfl | rfl | rfl <;> decide
def leafW (x : Nat) (p : Bool) : Nat := orN p (qem (outV x) (x.testBit 6) (!x.testBit 7) (!x.testBit 54) (x.testBit 10) (getV 2 3 x) ||| 2 ^ 0) (2 ^ 1)
theorem leafW_lt (x : Nat) (p : Bool) : leafW x p < 18446744073709551616 :=
 orN_lt _ (or_lt _ _ (leafN_lt _ _ _ _ (outV_lt x) (qer x)) (by decide)) (by decide)
theorem leafW_iff (x : Nat) (p : Bool) (hx : x < 18446744073709551616) (h0 : x.testBit 0 = true) (h1 : x.testBit 1 = p) :
  leafW x p = x ↔ (qcl x = true ∧ ∀ i, 48 ≤ i → i < 64 → i ≠ 53 → i ≠ 54 → x.testBit i = false) := by
 have hf : ∀ j, j < 64 → (leafW x p).testBit j = _ := fun j hj => enc_rd x j p hj
 constructor
 ·intro h
  rw [h] at hf
  have q : ∀ j, j < 64 → _ := hf
  have e5 := q 5 (by omega)
  have e8 := q 8 (by omega)
  have e9 := q 9 (by omega)
  have e11 := q 11 (by omega)
  have e53 := q 53 (by omega)
  simp at e5 e8 e9 e11 e53
  refine ⟨?_, fun i a b c d => ?_⟩
  ·unfold qcl; rw [e5, e8, e9, e11, e53]; rfl
  ·have e := q i b
   rw [if_neg (show ¬ i = 0 by omega), if_neg (show ¬ i = 1 by omega), if_neg (show ¬ i = 5 by omega), if_neg (show ¬ (i = 8 ∨ i = 9 ∨ i = 11 ∨ i = 53) by omega), if_neg (show ¬ (i < 48 ∨ i = 54) by omega)] at e
   exact e
 ·rintro ⟨hh, hz⟩
  unfold qcl at hh
  simp only [Bool.and_eq_true, Bool.not_eq_true'] at hh
  obtain ⟨⟨⟨⟨e8, e9⟩, e11⟩, e53⟩, e5⟩ := hh
  apply Nat.eq_of_testBit_eq
  intro j
  by_cases hj : j < 64
  ·rw [hf j hj]
   by_cases c0 : j = 0
   ·rw [if_pos c0, c0, h0]
   rw [if_neg c0]
   by_cases c1 : j = 1
   ·rw [if_pos c1, c1, h1]
   rw [if_neg c1]
   by_cases c5 : j = 5
   ·rw [if_pos c5, c5, e5]
   rw [if_neg c5]
   by_cases c8 : j = 8 ∨ j = 9 ∨ j = 11 ∨ j = 53
   ·rw [if_pos c8]
    rcases c8 with c | c | c | c <;> rw [c] <;> simp [e8, e9, e11, e53]
   rw [if_neg c8]
   by_cases c48 : j < 48 ∨ j = 54
   ·rw [if_pos c48]
   rw [if_neg c48]
   exact (hz j (by omega) hj (by omega) (by omega)).symm
  ·rw [high_bit _ j (leafW_lt x p) (by omega), high_bit x j hx (by omega)]
theorem leaf_iff (l : Int) (x : Nat) (p : Bool) (hl : isLv l = true) (hx : x < 18446744073709551616) (h0 : x.testBit 0 = true) (h1 : x.testBit 1 = p) :
  (qeo l (outV x) ((getV 2 3 x : Nat) : Int) = true ∧ leafW x p = x) ↔ (qcl x = true ∧ ∀ i, 12 ≤ i → i < 64 → ¬ qdu l x i) := by
 have hA := qer x
 have hlo := lowL_le hl
 have e : qeo l (outV x) ((getV 2 3 x : Nat) : Int) = qct (outV x) (lowL l) := by
  unfold qeo; rw [decide_eq_true (show (0 : Int) ≤ ((getV 2 3 x : Nat) : Int) ∧ ((getV 2 3 x : Nat) : Int) ≤ 7 by omega), Bool.and_true]
 rw [e, isOut_low x l hl, leafW_iff x p hx h0 h1]
 constructor
 ·rintro ⟨a, b, c⟩
  refine ⟨b, fun i i1 i2 hbad => ?_⟩
  obtain ⟨t, q | ⟨q1, q2, q3⟩⟩ := hbad
  ·rw [a i i1 q] at t; cases t
  ·rw [c i (by omega) i2 q2 q3] at t; cases t
 ·rintro ⟨a, b⟩
  refine ⟨fun i i1 i2 => ?_, a, fun i i1 i2 i3 i4 => ?_⟩
  ·cases t : x.testBit i
   ·rfl
   ·exact absurd ⟨t, Or.inl i2⟩ (b i i1 (by omega))
  ·cases t : x.testBit i
   ·rfl
   ·exact absurd ⟨t, Or.inr ⟨by omega, i3, i4⟩⟩ (b i (by omega) i2)
theorem rd_leaf (l : Int) (x : Nat) (h0 : x.testBit 0 = true) (h : (x.testBit 1 && decide (l < 3)) = false) :
  rdK l x = (if x.testBit 1 = true then 3 else 2) ∧ rdO x = outV x ∧ rdU l x = x.testBit 6 ∧ rdR l x = (!x.testBit 7) ∧ rdX l x = (!x.testBit 54) ∧ rdS l x = x.testBit 10 ∧ rdA l x = ((getV 2 3 x : Nat) : Int) := by
 unfold rdK rdO rdU rdR rdX rdS rdA leafQ
 simp only [h0, h]
 simp
theorem okD_block (l : Int) (x : Nat) (hl : isLv l = true) (hx : x < 18446744073709551616) (h0 : x.testBit 0 = true) (h1 : x.testBit 1 = false) :
  okD l x = true ↔ ((qcl x && decide (0 < l ∧ l < 3)) = true ∧ ∀ i, 12 ≤ i → i < 64 → ¬ qdu l x i) := by
 obtain ⟨e0, e1, e2, e3, e4, e5, e6⟩ := rd_leaf l x h0 (by rw [h1]; rfl)
 rw [h1, if_neg (by decide)] at e0
 have hi := leaf_iff l x false hl hx h0 h1
 have hlf : ¬ isLv l = false := by rw [hl]; decide
 unfold okD
 rw [e0, e1, e2, e3, e4, e5, e6, qbr, if_neg hlf, if_neg (by decide), if_neg (by decide), if_pos rfl]
 have eN : encN 2 (outV x) (x.testBit 6) (!x.testBit 7) (!x.testBit 54) (x.testBit 10) ((getV 2 3 x : Nat) : Int) = leafW x false := rfl
 rw [eN]
 simp only [Bool.and_eq_true, beq_iff_eq] at hi ⊢
 constructor
 ·rintro ⟨⟨a, b⟩, c⟩
  have := hi.1 ⟨b, c⟩
  exact ⟨⟨this.1, a⟩, this.2⟩
 ·rintro ⟨⟨a, b⟩, c⟩
  have := hi.2 ⟨a, c⟩
  exact ⟨⟨b, this.1⟩, this.2⟩
theorem okD_page (x : Nat) (hx : x < 18446744073709551616) (h0 : x.testBit 0 = true) (h1 : x.testBit 1 = true) :
  okD 3 x = true ↔ (qcl x = true ∧ ∀ i, 12 ≤ i → i < 64 → ¬ qdu 3 x i) := by
 obtain ⟨e0, e1, e2, e3, e4, e5, e6⟩ := rd_leaf 3 x h0 (by rw [h1]; rfl)
 rw [h1, if_pos rfl] at e0
 have hi := leaf_iff 3 x true (by decide) hx h0 h1
 unfold okD
 rw [e0, e1, e2, e3, e4, e5, e6, qbr, if_neg (by decide), if_neg (by decide), if_neg (by decide), if_neg (by decide), if_pos rfl]
 have eN : encN 3 (outV x) (x.testBit 6) (!x.testBit 7) (!x.testBit 54) (x.testBit 10) ((getV 2 3 x : Nat) : Int) = leafW x true := rfl
 rw [eN]
 simp only [Bool.and_eq_true, beq_iff_eq, decide_eq_true_eq, true_and] at hi ⊢
 exact hi
theorem rd_tab (l : Int) (x : Nat) (h0 : x.testBit 0 = true) (h1 : x.testBit 1 = true) (h3 : l < 3) :
  rdK l x = 1 ∧ rdO x = outV x ∧ rdU l x = false ∧ rdR l x = false ∧ rdX l x = false ∧ rdS l x = false ∧ rdA l x = 0 := by
 unfold rdK rdO rdU rdR rdX rdS rdA leafQ
 simp only [h0, h1, decide_eq_true h3]
 simp
theorem okD_table (l : Int) (x : Nat) (hl : isLv l = true) (hx : x < 18446744073709551616) (h0 : x.testBit 0 = true) (h1 : x.testBit 1 = true) (h3 : l < 3) :
  okD l x = true ↔ ∀ i, 2 ≤ i → i < 64 → ¬ tabBad x i := by
 obtain ⟨e0, e1, e2, e3, e4, e5, e6⟩ := rd_tab l x h0 h1 h3
 have hlf : ¬ isLv l = false := by rw [hl]; decide
 have ho : qct (outV x) 12 = true := (qeu x 12 (by omega) (by omega)).2 (fun i a b => absurd b (by omega))
 have hb : bareB false false false false 0 = true := rfl
 have eN : encN 1 (outV x) false false false false 0 = outV x ||| 2 ^ 0 ||| 2 ^ 1 := rfl
 unfold okD
 rw [e0, e1, e2, e3, e4, e5, e6, qbr, if_neg hlf, if_neg (by decide), if_pos rfl, ho, hb, decide_eq_true h3, eN]
 simp only [Bool.and_true, Bool.true_and, beq_iff_eq]
 constructor
 ·intro h i a b hbad
  have e : (outV x ||| 2 ^ 0 ||| 2 ^ 1).testBit i = x.testBit i := by rw [h]
  rw [qes, qes, qcr, hbad.1, decide_eq_false (show ¬ (12 ≤ i ∧ i < 48) by have := hbad.2; omega), decide_eq_false (show ¬ 0 = i by omega), decide_eq_false (show ¬ 1 = i by omega)] at e
  cases e
 ·intro h
  apply Nat.eq_of_testBit_eq
  intro i
  rw [qes, qes, qcr]
  by_cases c0 : i = 0
  ·subst c0; rw [h0]; rfl
  by_cases c1 : i = 1
  ·subst c1; rw [h1]; rfl
  rw [decide_eq_false (show ¬ 0 = i by omega), decide_eq_false (show ¬ 1 = i by omega), Bool.or_false, Bool.or_false]
  by_cases c2 : i < 64
  ·cases t : x.testBit i
   ·rfl
   ·have hn := h i (by omega) c2
    have : ¬ (i < 12 ∨ 47 < i) := fun q => hn ⟨t, q⟩
    rw [decide_eq_true (show 12 ≤ i ∧ i < 48 by omega)]; rfl
  ·rw [high_bit x i hx (by omega)]; rfl
theorem first_bad (P : Nat → Prop) (a b : Nat) (h : ¬ ∀ i, a ≤ i → i < b → ¬ P i) : ∃ i0, a ≤ i0 ∧ i0 < b ∧ P i0 ∧ ∀ i, a ≤ i → i < i0 → ¬ P i := by
 have hex : ∃ i, a ≤ i ∧ i < b ∧ P i := Classical.byContradiction fun hn => h fun i h1 h2 h3 => hn ⟨i, h1, h2, h3⟩
 have key : ∀ n, (∃ i, i ≤ n ∧ a ≤ i ∧ i < b ∧ P i) → ∃ i0, a ≤ i0 ∧ i0 < b ∧ P i0 ∧ ∀ i, a ≤ i → i < i0 → ¬ P i := by
  intro n
  induction n with
  | zero =>
   rintro ⟨i, h1, h2, h3, h4⟩
   exact ⟨i, h2, h3, h4, fun j _ hj => absurd hj (by omega)⟩
  | succ n ih =>
   rintro ⟨i, h1, h2, h3, h4⟩
   by_cases hq : ∃ i, i ≤ n ∧ a ≤ i ∧ i < b ∧ P i
   ·exact ih hq
   ·exact ⟨i, h2, h3, h4, fun j ha hj hP => hq ⟨j, by omega, ha, by omega, hP⟩⟩
 obtain ⟨i, h1, h2, h3⟩ := hex
 exact key i ⟨i, Nat.le_refl _, h1, h2, h3⟩
theorem zP42x06 {Z : Prop} (z : Z := by
 clear hh2
 go_wp2
 refine bodyPost_ret (v := .tuple #[dv 0 0 false false false false 0, .bool false]) ?_ rfl ⟨rfl, ?_⟩
 ·first
   | exact qaw (p := 4) (u := 5) rfl _ _ w.heap.size 92 _ _ _ rfl (row7 _ _ _ _ _ _ _ HZX.out) Tryz.underlying92 rfl (by kernel_rfl)
 ·exact qcx hBx (Nat.le_refl _) _ _ _ _ _ _ _) : Z := z
theorem rdec_leafP (l : Int) (x : Nat) (hx : x < 18446744073709551616) (h0 : x.testBit 0 = true) (h1 : x.testBit 1 = true) (h3 : l = 3) (R : Value) (ok : Bool)
  (hcase : (qcl x = true ∧ (∀ i, 12 ≤ i → i < 64 → ¬ qdu l x i) ∧ R = dv 3 (outV x) (x.testBit 6) (!x.testBit 7) (!x.testBit 54) (x.testBit 10) ((getV 2 3 x : Nat) : Int) ∧ ok = true) ∨
   (qcl x = false ∧ R = dv 0 0 false false false false 0 ∧ ok = false) ∨
   (qcl x = true ∧ (∃ i0, 12 ≤ i0 ∧ i0 < 64 ∧ qdu l x i0 ∧ ∀ i, 12 ≤ i → i < i0 → ¬ qdu l x i) ∧ R = dv 0 0 false false false false 0 ∧ ok = false)) (w : World) :
  Calls Tryz.prog 110 #[.int .i64 l, .int .u64 x] w fun e w' => e = .returned (.tuple #[R, .bool ok]) ∧ Below w.heap.size w w' := by
 have cA : ∀ w1, Calls Tryz.prog 95 #[.int .u64 x, .int .i64 2, .int .i64 3] w1 fun e w' => e = .returned (.int .u64 ((getV 2 3 x : Nat) : Int)) ∧ Below w1.heap.size w1 w' := fun w1 => cGet 2 3 (by decide) x hx w1
 have hwa : IntKind.i64.wrap ((getV 2 3 x : Nat) : Int) = ((getV 2 3 x : Nat) : Int) := by have := qer x; rw [IntKind.wrap_i64]; omega
 subst h3
 have cL := fun w1 => refLow_any 3 (by decide) w1
 unfold qdu at hcase
 generalize lowL 3 = L at *
 generalize getV 2 3 x = A at *
 have cG : ∀ w1, Calls Tryz.prog 95 #[.int .u64 x, .int .i64 12, .int .i64 36] w1 fun e w' => e = .returned (.int .u64 ((getV 12 36 x : Nat) : Int)) ∧ Below w1.heap.size w1 w' := fun w1 => cGet 12 36 (by decide) x hx w1
 have hw := out_wrap x
 generalize getV 12 36 x = G at *
 generalize outV x = O at *
 have HCASE : Hid _ := hcase
 clear hcase
 go_enter Tryz.func110, Tryz.ntmps110
 go_wp2_with fail
 refine (qfm x hx _).mono ?_
 rintro e w1 ⟨rfl, hb1⟩
 have hsz : w.heap.size < w1.heap.size := by have := hb1.size; simp at this; omega
 have hz : w1.heap[w.heap.size]? = some (.cells zeros 92 (0, 0)) := by
  rw [hb1.block _ (by simp)]; exact heap_alloc_new _ _
 have hB : Below w.heap.size w w1 := qab (qac _ _) hb1
 have hc : (w1.alloc (.cells (arr x.testBit) 209)).cell? ⟨w1.heap.size, 0, none⟩ = some (.bool true) := by
  rw [cell_of_row _ _ _ _ _ _ (heap_alloc_new _ _), qbv _ _ (by omega), h0]
 clear hb1
 go_wp2_with (first
  | (refine wpList_store_row rfl 209 _ _ rfl w1.heap.size (arr x.testBit) rfl rfl 209 _ (heap_alloc_new _ _) (qex _) (by rw [qby]; rfl) (arr_one _) ?_; rw [World.setRow_alloc_new]))
 refine (cG _).mono ?_
 rintro e w2 ⟨rfl, hb2⟩
 have ha2 : w2.heap[w1.heap.size]? = some (.cells (arr x.testBit) 209 (0, 0)) := by
  rw [hb2.block _ (by simp)]; exact heap_alloc_new _ _
 have hz2 : w2.heap[w.heap.size]? = some (.cells zeros 92 (0, 0)) := by
  rw [hb2.block _ (by simp; omega), heap_alloc_old _ _ hsz]; exact hz
 have hB2 : Below w.heap.size w w2 := qab (hB.alloc hB.size _) hb2
 have hcell : ∀ i, i < 64 → w2.cell? ⟨w1.heap.size, i, none⟩ = some (.bool (x.testBit i)) := fun i hi => by
  rw [cell_of_row _ _ _ _ _ _ ha2, qbv _ _ hi]
 clear hb2 hz hB hc cG
 have hc1 := hcell 1 (by omega)
 rw [h1] at hc1
 have c6 := hcell 6 (by omega)
 have c7 := hcell 7 (by omega)
 have c10 := hcell 10 (by omega)
 have c54 := hcell 54 (by omega)
 have hs2 : w1.heap.size < w2.heap.size := World.block_lt_of_cell? _ _ c6
 have hne : w1.heap.size ≠ w2.heap.size := Nat.ne_of_lt hs2
 have HZ2 : Hid _ := hz2
 have HA2 : Hid _ := ha2
 clear hcell hz2 ha2
 go_upto_region 12 with fail
 go_cut [9] (fun t wc => ∃ K, t = .pointer (some ⟨K, 0, none⟩) ∧ Below w2.heap.size w2 wc ∧ w2.heap.size ≤ K ∧ wc.heap[K]? = some (.cells #[.int .i64 2, .int .u64 (O : Int), .bool (x.testBit 6), .bool (!x.testBit 7), .bool (!x.testBit 54), .bool (x.testBit 10), .int .i64 (A : Int)] 92 (0, 0)))
 case first =>
  exact zP42x02
 case rest =>
  obtain ⟨K, rfl, hBc, hKs, hKr⟩ := hcut
  have hz := (hBc.block _ (by omega)).trans HZ2.out
  have ha := (hBc.block _ hs2).trans HA2.out
  have hBw : Below w.heap.size w wc := qab hB2 hBc
  have hcell : ∀ i, i < 64 → wc.cell? ⟨w1.heap.size, i, none⟩ = some (.bool (x.testBit i)) := fun i hi => by
   rw [cell_of_row _ _ _ _ _ _ ha, qbv _ _ hi]
  obtain ⟨⟨m0, m1, m2, m3, m4, m5, m6⟩, mf⟩ := qbw hKr
  obtain ⟨⟨g0, g1, g2, g3, g4, g5, g6⟩, gf⟩ := qbw hz
  have p1 := hcell 1 (by omega)
  rw [h1] at p1
  have p5 := hcell 5 (by omega)
  have p8 := hcell 8 (by omega)
  have p9 := hcell 9 (by omega)
  have p11 := hcell 11 (by omega)
  have p53 := hcell 53 (by omega)
  have HCELL : Hid _ := hcell
  have HZ : Hid _ := hz
  have HA : Hid _ := ha
  have HKR : Hid _ := hKr
  have n1 : w1.heap.size ≠ K := by omega
  have n2 : w.heap.size ≠ K := by omega
  have n3 : K ≠ w1.heap.size := by omega
  have n4 : K ≠ w.heap.size := by omega
  have sw : w.heap.size < wc.heap.size := World.block_lt_of_cell? _ _ g0
  have sk : K < wc.heap.size := World.block_lt_of_cell? _ _ m0
  have s1 : w1.heap.size < wc.heap.size := World.block_lt_of_cell? _ _ p5
  clear hcell hz ha hKr hc1 c6 c7 c10 c54 hne HZ2 HA2 hB2 hBc cA hwa hw
  have hKx : (wc.setCell ⟨K, 0, none⟩ (.int .i64 3)).heap[K]? = some (.cells #[.int .i64 3, .int .u64 (O : Int), .bool (x.testBit 6), .bool (!x.testBit 7), .bool (!x.testBit 54), .bool (x.testBit 10), .int .i64 (A : Int)] 92 (0, 0)) := by
   have h := heap_setCell_same _ K 0 _ _ (.int .i64 3) HKR.out
   simp only [List.setIfInBounds_toArray, List.set_cons_zero] at h
   exact h
  have hzx : (wc.setCell ⟨K, 0, none⟩ (.int .i64 3)).heap[w.heap.size]? = some (.cells zeros 92 (0, 0)) := by
   rw [heap_setCell_other _ _ _ _ n2]; exact HZ.out
  have hax : (wc.setCell ⟨K, 0, none⟩ (.int .i64 3)).heap[w1.heap.size]? = some (.cells (arr x.testBit) 209 (0, 0)) := by
   rw [heap_setCell_other _ _ _ _ n1]; exact HA.out
  have hBx : Below w.heap.size w (wc.setCell ⟨K, 0, none⟩ (.int .i64 3)) := hBw.setCell (by show w.heap.size ≤ K; omega) _
  have HKX : Hid _ := hKx
  have HZX : Hid _ := hzx
  have HAX : Hid _ := hax
  clear hKx hzx hax
  clear HKR HZ HA
  by_cases hh : qcl x = true
  rotate_left
  ·have hR : R = dv 0 0 false false false false 0 ∧ ok = false := by
    rcases HCASE.out with h | h | h
    ·exact absurd h.1 hh
    ·exact h.2
    ·exact absurd h.1 hh
   obtain ⟨rfl, rfl⟩ := hR
   clear HCASE cL HKX HAX HCELL
   have hh2 : qcl x = false := by simpa using hh
   exact zP42x11
  have hq : x.testBit 8 = true ∧ x.testBit 9 = true ∧ x.testBit 11 = true ∧ x.testBit 53 = true ∧ x.testBit 5 = false := by
   have h2 := hh
   unfold qcl at h2
   simp only [Bool.and_eq_true, Bool.not_eq_true'] at h2
   exact ⟨h2.1.1.1.1, h2.1.1.1.2, h2.1.1.2, h2.1.2, h2.2⟩
  obtain ⟨b8, b9, b11, b53, b5⟩ := hq
  rw [b8] at p8
  rw [b9] at p9
  rw [b11] at p11
  rw [b53] at p53
  rw [b5] at p5
  have hN : ∃ N : Nat, 12 ≤ N ∧ N ≤ 64 ∧ (∀ i, 12 ≤ i → i < N → ¬ (x.testBit i = true ∧ ((i : Int) < L ∨ (47 < i ∧ i ≠ 53 ∧ i ≠ 54)))) ∧
    ((N = 64 ∧ R = dv 3 O (x.testBit 6) (!x.testBit 7) (!x.testBit 54) (x.testBit 10) (A : Int) ∧ ok = true) ∨ (N < 64 ∧ (x.testBit N = true ∧ ((N : Int) < L ∨ (47 < N ∧ N ≠ 53 ∧ N ≠ 54))) ∧ R = dv 0 0 false false false false 0 ∧ ok = false)) := by
   rcases HCASE.out with h | h | h
   ·exact ⟨64, by omega, by omega, h.2.1, Or.inl ⟨rfl, h.2.2⟩⟩
   ·exact absurd hh (by rw [h.1]; decide)
   ·obtain ⟨_, ⟨i0, a1, a2, a3, a4⟩, h5⟩ := h
    exact ⟨i0, a1, by omega, a4, Or.inr ⟨a2, a3, h5⟩⟩
  obtain ⟨N, hN12, hN64, hgood, hlast⟩ := hN
  have HGOOD : Hid _ := hgood
  have HLAST : Hid _ := hlast
  clear hgood hlast HCASE hh b5 b8 b9 b11 b53
  go_wp2_with fail
  go_loopw [10] (fun i wr => ∃ k : Nat, 12 ≤ k ∧ k ≤ N ∧ i = .int .i64 k ∧ Below (wc.setCell ⟨K, 0, none⟩ (.int .i64 3)).heap.size (wc.setCell ⟨K, 0, none⟩ (.int .i64 3)) wr) (fun i _ => 64 - (intOf i).toNat)
  case atStart => exact ⟨12, by omega, hN12, rfl, Below.refl _ _⟩
  case round =>
   exact zP42x01
theorem rdec_good (l : Int) (x : Nat) (hl : isLv l = true) (hx : x < 18446744073709551616) (h : qde l x = true) (w : World) :
  Calls Tryz.prog 110 #[.int .i64 l, .int .u64 x] w fun e w' => e = .returned (.tuple #[rdV l x, .bool true]) ∧ Below w.heap.size w w' := by
 cases h0 : x.testBit 0
 ·rw [rdV_inv l x h0]
  exact rdec_inv l x hx h0 w
 ·have hk : okD l x = true := by unfold qde at h; rw [h0] at h; simpa using h
  cases h1 : x.testBit 1
  ·have hi := (okD_block l x hl hx h0 h1).1 hk
   obtain ⟨e0, e1, e2, e3, e4, e5, e6⟩ := rd_leaf l x h0 (by rw [h1]; rfl)
   rw [h1, if_neg (by decide)] at e0
   refine rdec_leafB l x hx h0 h1 hl _ _ (Or.inl ⟨hi.1, hi.2, ?_, rfl⟩) w
   unfold rdV; rw [e0, e1, e2, e3, e4, e5, e6]
  ·by_cases h3 : l < 3
   ·have hi := (okD_table l x hl hx h0 h1 h3).1 hk
    obtain ⟨e0, e1, e2, e3, e4, e5, e6⟩ := rd_tab l x h0 h1 h3
    unfold rdV; rw [e0, e1, e2, e3, e4, e5, e6]
    exact rdec_tab l x hx h0 h1 h3 hi w
   ·have e3 : l = 3 := by have := qdf hl; omega
    subst e3
    have hi := (okD_page x hx h0 h1).1 hk
    obtain ⟨e0, e1, e2, e3, e4, e5, e6⟩ := rd_leaf 3 x h0 (by rw [h1]; rfl)
    rw [h1, if_pos rfl] at e0
    refine rdec_leafP 3 x hx h0 h1 rfl _ _ (Or.inl ⟨hi.1, hi.2, ?_, rfl⟩) w
    unfold rdV; rw [e0, e1, e2, e3, e4, e5, e6]
theorem rdec_fail (l : Int) (x : Nat) (hl : isLv l = true) (hx : x < 18446744073709551616) (h : qde l x = false) (w : World) :
  Calls Tryz.prog 110 #[.int .i64 l, .int .u64 x] w fun e w' => e = .returned (.tuple #[dv 0 0 false false false false 0, .bool false]) ∧ Below w.heap.size w w' := by
 cases h0 : x.testBit 0
 ·unfold qde at h; rw [h0] at h; cases h
 ·have hk : ¬ okD l x = true := by unfold qde at h; rw [h0] at h; simpa using h
  cases h1 : x.testBit 1
  ·have hi := fun q => hk ((okD_block l x hl hx h0 h1).2 q)
   cases hh : (qcl x && decide (0 < l ∧ l < 3))
   ·exact rdec_leafB l x hx h0 h1 hl _ _ (Or.inr (Or.inl ⟨hh, rfl, rfl⟩)) w
   ·exact rdec_leafB l x hx h0 h1 hl _ _ (Or.inr (Or.inr ⟨hh, first_bad _ _ _ (fun q => hi ⟨hh, q⟩), rfl, rfl⟩)) w
  ·by_cases h3 : l < 3
   ·obtain ⟨i0, a, b, c, d⟩ := first_bad _ 2 64 (fun q => hk ((okD_table l x hl hx h0 h1 h3).2 q))
    exact rdec_tabBad l x hx h0 h1 h3 i0 a b c d w
   ·have e3 : l = 3 := by have := qdf hl; omega
    subst e3
    have hi := fun q => hk ((okD_page x hx h0 h1).2 q)
    cases hh : qcl x
    ·exact rdec_leafP 3 x hx h0 h1 rfl _ _ (Or.inr (Or.inl ⟨hh, rfl, rfl⟩)) w
    ·exact rdec_leafP 3 x hx h0 h1 rfl _ _ (Or.inr (Or.inr ⟨hh, first_bad _ _ _ (fun q => hi ⟨hh, q⟩), rfl, rfl⟩)) w
end Go.Proofs.YtfdbdeckohaneaaGreatDoor
