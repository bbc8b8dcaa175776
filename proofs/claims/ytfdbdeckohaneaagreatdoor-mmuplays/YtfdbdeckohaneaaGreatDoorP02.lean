/- P02 -/
import Derived.Test.YtfdbdeckohaneaaGreatDoorRows
import Derived.Deep.WholeRow
import Derived.Deep.RegionHeld3
import Derived.Laws.CopyOwn
import Derived.Test.YtfdbdeckohaneaaGreatDoorP01
set_option maxHeartbeats 16000000
set_option maxRecDepth 100000
namespace Go.Proofs.YtfdbdeckohaneaaGreatDoor
open Go.RowKit
theorem qfl (f : Nat → Bool) : (Tryz.prog.info? 209).map (·.size) = some (arr f).size := by
 rw [qby]; kernel_rfl
def BitsRel (x : Nat) (w : World) (k : Nat) (wr : World) : Prop :=
 Below w.heap.size w wr ∧ wr.heap.size = w.heap.size + 2 ∧ wr.heap[w.heap.size]? = some (.cells (arr fun _ => false) 209 (0, 0)) ∧
 wr.heap[w.heap.size + 1]? = some (.cells (arr fun i => decide (i < k) && x.testBit i) 209 (0, 0))
theorem bitsRel_step {x k : Nat} {w wr : World} (h : BitsRel x w k wr) (hk : k < 64) : BitsRel x w (k + 1) (wr.setCell ⟨w.heap.size + 1, k, none⟩ (.bool (x.testBit k))) := by
 obtain ⟨h1, h2, h3, h4⟩ := h
 refine ⟨h1.setCell (by simp) _, by simpa using h2, ?_, ?_⟩
 ·rw [heap_setCell_other _ _ _ _ (by simp)]; exact h3
 ·rw [heap_setCell_same _ _ _ _ _ _ h4, arr_set _ _ _ hk]
  congr 2
  apply arr_congr
  intro i _
  by_cases e : i = k
  ·subst e; simp
  ·rw [if_neg e]; congr 1; rw [decide_eq_decide]; omega
theorem qfm (x : Nat) (hx : x < 18446744073709551616) (w : World) :
  Calls Tryz.prog 128 #[.int .u64 x] w fun e w' => e = .returned (.agg (arr x.testBit)) ∧ Below w.heap.size w w' := by
 go_enter Tryz.func128, Tryz.ntmps128
 go_wp2
 go_loopw [0, 4] (fun t i wr => ∃ k : Nat, k ≤ 64 ∧ i = .int .i64 k ∧ t = .int .u64 ((x / 2 ^ k : Nat) : Int) ∧ BitsRel x w k wr) (fun _ i _ => 64 - (intOf i).toNat)
 case atStart =>
  refine ⟨0, by omega, rfl, by simp, ((Below.refl _ _).alloc (Nat.le_refl _) _).alloc (by simp) _, by simp, ?_, ?_⟩
  ·rw [heap_alloc2_old]; rfl
  ·rw [heap_alloc2_new]; rfl
 case round =>
  obtain ⟨k, hk, rfl, rfl, hR⟩ := hrel
  have hcell : k < 64 → wr.cell? ⟨w.heap.size + 1, k, none⟩ = some (.bool false) := fun h => by
   rw [cell_of_row _ _ _ _ _ _ hR.2.2.2, qbv _ _ h]; simp
  have hfr : wr.frozen? ⟨w.heap.size + 1, k, none⟩ = false := frozen_of_row _ _ _ _ _ hR.2.2.2
  have HT : Hid (x.testBit k = decide (x / 2 ^ k % 2 = 1)) := by
   show x.testBit k = _
   rw [Nat.testBit_eq_decide_div_mod_eq]
  have HN : Hid (x / 2 ^ (k + 1) = x / 2 ^ k / 2) := by
   show x / 2 ^ (k + 1) = _
   rw [Nat.pow_succ, Nat.div_div_eq_div_mul]
  have hy : x / 2 ^ k < 18446744073709551616 := Nat.lt_of_le_of_lt (Nat.div_le_self _ _) hx
  generalize x / 2 ^ k = y at *
  by_cases hlt : k < 64
  ·have hc := hcell hlt
   clear hcell
   go_wp2
   refine ⟨⟨k + 1, by omega, by go_num, ?_, ?_⟩, by simp [intOf]; omega⟩
   ·rw [HN.out]; simp
   ·have e : ((y : Int) % 2 == 1) = x.testBit k := by
     rw [HT.out, Bool.eq_iff_iff]; simp; omega
    rw [e]
    exact bitsRel_step hR hlt
  ·have e64 : k = 64 := by omega
   subst e64
   obtain ⟨hB, hsz, hb0, hb1⟩ := hR
   have hE : (arr fun i => decide (i < 64) && x.testBit i) = arr x.testBit := arr_congr fun i hi => by simp [hi]
   rw [hE] at hb1
   clear hcell hE HN HT hfr hsz
   go_wp2_with (first
    | (refine wpList_load_row rfl 209 _ rfl (w.heap.size + 1) rfl _ _ _ _ hb1 Tryz.underlying209 rfl (qfl _) ?_)
    | (refine wpList_store_row rfl 209 _ _ rfl w.heap.size (arr x.testBit) rfl rfl 209 _ hb0 (qfl _) (by rw [qby, qby]) (arr_one _) ?_))
   refine bodyPost_ret (v := .agg (arr x.testBit)) ?_ rfl ⟨rfl, below_setRow hB (Nat.le_refl _) _⟩
   exact results_cell_row rfl _ _ w.heap.size 209 _ _ _ rfl (setRow_heap _ _ _ _ _ _ hb0) Tryz.underlying209 rfl (qfl _)
theorem word_any (f : Nat → Bool) (w : World) :
  Calls Tryz.prog 129 #[.agg (arr f)] w fun e w' => e = .returned (.int .u64 ((wv f 0 64 : Nat) : Int)) ∧ Below w.heap.size w w' := by
 go_enter Tryz.func129, Tryz.ntmps129
 go_wp2
 go_loop [3, 4] (fun t i => ∃ k : Nat, k ≤ 64 ∧ i = .int .i64 ((k : Int) - 1) ∧ t = .int .u64 ((wv f k (64 - k) : Nat) : Int)) (fun _ i => (intOf i + 1).toNat)
 case atStart => exact ⟨64, Nat.le_refl _, rfl, rfl⟩
 case round =>
  obtain ⟨k, hk, rfl, rfl⟩ := hrel
  by_cases hlt : 1 ≤ k
  ·obtain ⟨j, rfl⟩ : ∃ j, k = j + 1 := ⟨k - 1, by omega⟩
   have hj : j < 64 := by omega
   have hge : decide ((0 : Int) ≤ (j : Int)) = true := by simp
   have hc : (w.alloc (.cells (arr f) 209)).cell? ⟨w.heap.size, j, none⟩ = some (.bool (f j)) := by
    rw [cell_of_row _ _ _ _ _ _ (heap_alloc_new _ _), qbv _ _ hj]
   have HN : Hid (wv f j (64 - j) = 2 * wv f (j + 1) (64 - (j + 1)) + (f j).toNat) := by
    show wv f j (64 - j) = _
    have e : 64 - j = (64 - (j + 1)) + 1 := by omega
    rw [e, wv]
   have hb : wv f (j + 1) (64 - (j + 1)) < 9223372036854775808 := by
    have h1 := wv_lt f (64 - (j + 1)) (j + 1)
    have h2 : 2 ^ (64 - (j + 1)) ≤ 2 ^ 63 := Nat.pow_le_pow_right (by omega) (by omega)
    omega
   generalize wv f (j + 1) (64 - (j + 1)) = y at *
   have ej : ((j + 1 : Nat) : Int) - 1 = (j : Int) := by omega
   rw [ej]
   cases hf : f j
   all_goals rw [hf] at hc
   all_goals go_wp2
   all_goals exact ⟨⟨j, by omega, rfl, by rw [HN.out, hf]; simp; omega⟩, by simp [intOf]⟩
  ·have e0 : k = 0 := by omega
   subst e0
   go_wp2
   go_ret
   exact ⟨rfl, (Below.refl _ _).alloc (Nat.le_refl _) _⟩
def GetRel (x l : Nat) (w : World) (H : Nat) (k : Nat) (wr : World) : Prop :=
 Below w.heap.size w wr ∧ wr.heap.size = H + 2 ∧ wr.heap[H]? = some (.cells (arr x.testBit) 209 (0, 0)) ∧
 wr.heap[H + 1]? = some (.cells (arr fun i => decide (i < k) && x.testBit (l + i)) 209 (0, 0))
theorem getRel_step {x l k H : Nat} {w wr : World} (hH : w.heap.size ≤ H) (h : GetRel x l w H k wr) (hk : k < 64) : GetRel x l w H (k + 1) (wr.setCell ⟨H + 1, k, none⟩ (.bool (x.testBit (l + k)))) := by
 obtain ⟨h1, h2, h3, h4⟩ := h
 refine ⟨h1.setCell (by simp; omega) _, by simpa using h2, ?_, ?_⟩
 ·rw [heap_setCell_other _ _ _ _ (by simp)]; exact h3
 ·rw [heap_setCell_same _ _ _ _ _ _ h4, arr_set _ _ _ hk]
  congr 2
  apply arr_congr
  intro i _
  by_cases e : i = k
  ·subst e; simp
  ·rw [if_neg e]; congr 1; rw [decide_eq_decide]; omega
theorem refGet_any (x l n : Nat) (hx : x < 18446744073709551616) (hn : l + n ≤ 64) (w : World) :
  Calls Tryz.prog 95 #[.int .u64 x, .int .i64 l, .int .i64 n] w fun e w' => e = .returned (.int .u64 ((wv (fun i => decide (i < n) && x.testBit (l + i)) 0 64 : Nat) : Int)) ∧ Below w.heap.size w w' := by
 go_enter Tryz.func95, Tryz.ntmps95
 go_wp2_with fail
 refine (qfm x hx _).mono ?_
 rintro e w1 ⟨rfl, hb1⟩
 have hsz := hb1.size
 go_wp2_with (first
  | (refine wpList_store_row rfl 209 _ _ rfl w1.heap.size (arr x.testBit) rfl rfl 209 _ (heap_alloc_new _ _) (qfl _) (by rw [qby]; rfl) (arr_one _) ?_; rw [World.setRow_alloc_new]))
 go_loopw [9] (fun i wr => ∃ k : Nat, k ≤ n ∧ i = .int .i64 k ∧ GetRel x l w w1.heap.size k wr) (fun i _ => n - (intOf i).toNat)
 case atStart =>
  refine ⟨0, by omega, rfl, (hb1.alloc hsz _).alloc (by simp; omega) _, by simp, ?_, ?_⟩
  ·rw [heap_alloc2_old]
  ·rw [heap_alloc2_new]; rfl
 case round =>
  obtain ⟨k, hk, rfl, hR⟩ := hrel
  by_cases hlt : k < n
  ·have hi1 : (0 : Int) ≤ (l : Int) + (k : Int) := by omega
   have hi2 : (l : Int) + (k : Int) < 64 := by omega
   have hc1 : wr.cell? ⟨w1.heap.size, l + k, none⟩ = some (.bool (x.testBit (l + k))) := by
    rw [cell_of_row _ _ _ _ _ _ hR.2.2.1, qbv _ _ (by omega)]
   have hc2 : wr.cell? ⟨w1.heap.size + 1, k, none⟩ = some (.bool false) := by
    rw [cell_of_row _ _ _ _ _ _ hR.2.2.2, qbv _ _ (by omega)]; simp
   have hfr : wr.frozen? ⟨w1.heap.size + 1, k, none⟩ = false := frozen_of_row _ _ _ _ _ hR.2.2.2
   have et : ((l : Int) + (k : Int)).toNat = l + k := by omega
   go_wp2
   refine ⟨⟨k + 1, by omega, by go_num, ?_⟩, by simp [intOf]; omega⟩
   exact getRel_step hsz hR (by omega)
  ·have ek : k = n := by omega
   subst ek
   obtain ⟨hB, hs2, hc0, hc1⟩ := hR
   clear hb1
   go_wp2_with (first
    | (refine wpList_load_row rfl 209 _ rfl (w1.heap.size + 1) rfl _ _ _ _ hc1 Tryz.underlying209 rfl (qfl _) ?_))
   refine (word_any _ _).mono ?_
   rintro e w2 ⟨rfl, hb2⟩
   go_wp2
   go_ret
   exact ⟨rfl, hB.trans (hb2.mono (by omega))⟩
def DownRel (x : Nat) (w : World) (H : Nat) (k : Nat) (wr : World) : Prop :=
 Below w.heap.size w wr ∧ wr.heap.size = H + 1 ∧ wr.heap[H]? = some (.cells (arr fun i => decide (k ≤ i) && x.testBit i) 209 (0, 0))
theorem downRel_step {x k H : Nat} {w wr : World} (hH : w.heap.size ≤ H) (h : DownRel x w H k wr) (hk : k < 64) : DownRel x w H (k + 1) (wr.setCell ⟨H, k, none⟩ (.bool false)) := by
 obtain ⟨h1, h2, h3⟩ := h
 refine ⟨h1.setCell hH _, by simpa using h2, ?_⟩
 rw [heap_setCell_same _ _ _ _ _ _ h3, arr_set _ _ _ hk]
 congr 2
 apply arr_congr
 intro i _
 by_cases e : i = k
 ·subst e; simp; omega
 ·rw [if_neg e]; congr 1; rw [decide_eq_decide]; omega
theorem zP02x02 {Z : Prop} (z : Z := by
 go_wp2_with (first
  | (refine wpList_load_row rfl 209 _ rfl w1.heap.size rfl _ _ _ _ hc0 Tryz.underlying209 rfl (qfl _) ?_))
 refine (word_any _ _).mono ?_
 rintro e w3 ⟨rfl, hb3⟩
 go_wp2
 go_ret
 exact ⟨rfl, hB.trans (hb3.mono (by omega))⟩) : Z := z
theorem refDown_any (x : Nat) (n : Int) (hx : x < 18446744073709551616) (h0 : 0 ≤ n) (w : World) :
  Calls Tryz.prog 127 #[.int .u64 x, .int .i64 n] w fun e w' => e = .returned (.int .u64 ((wv (fun i => decide (n ≤ (i : Int)) && x.testBit i) 0 64 : Nat) : Int)) ∧ Below w.heap.size w w' := by
 go_enter Tryz.func127, Tryz.ntmps127
 go_wp2_with fail
 refine (qfm x hx _).mono ?_
 rintro e w1 ⟨rfl, hb1⟩
 have hsz := hb1.size
 go_wp2_with (first
  | (refine wpList_store_row rfl 209 _ _ rfl w1.heap.size (arr x.testBit) rfl rfl 209 _ (heap_alloc_new _ _) (qfl _) (by rw [qby]; rfl) (arr_one _) ?_; rw [World.setRow_alloc_new]))
 go_loopw [6] (fun i wr => ∃ k : Nat, k ≤ 64 ∧ (k : Int) ≤ n ∧ i = .int .i64 k ∧ DownRel x w w1.heap.size k wr) (fun i _ => 64 - (intOf i).toNat)
 case atStart =>
  refine ⟨0, by omega, by omega, rfl, hb1.alloc hsz _, by simp, ?_⟩
  rw [heap_alloc_new]; congr 2
 case round =>
  obtain ⟨k, hk, hkn, rfl, hR⟩ := hrel
  by_cases hlt : k < 64 ∧ (k : Int) < n
  ·obtain ⟨hl1, hl2⟩ := hlt
   have hc2 : wr.cell? ⟨w1.heap.size, k, none⟩ = some (.bool (x.testBit k)) := by
    rw [cell_of_row _ _ _ _ _ _ hR.2.2, qbv _ _ (by omega)]; simp
   have hfr : wr.frozen? ⟨w1.heap.size, k, none⟩ = false := frozen_of_row _ _ _ _ _ hR.2.2
   go_wp2
   refine ⟨⟨k + 1, by omega, by omega, by go_num, downRel_step hsz hR hl1⟩, by simp [intOf]; omega⟩
  ·obtain ⟨hB, hs2, hc0⟩ := hR
   have hE : (arr fun i => decide (k ≤ i) && x.testBit i) = arr (fun i => decide (n ≤ (i : Int)) && x.testBit i) := arr_congr fun i hi => by
    congr 1; rw [decide_eq_decide]; omega
   rw [hE] at hc0
   clear hE hb1
   by_cases hkn2 : (k : Int) < n
   ·have h64 : ¬ (k : Int) < 64 := by omega
    have hd1 : decide ((k : Int) < n) = true := decide_eq_true hkn2
    have hd2 : decide ((k : Int) < 64) = false := decide_eq_false h64
    clear hlt
    exact zP02x02
   ·have hd1 : decide ((k : Int) < n) = false := decide_eq_false hkn2
    clear hlt
    exact zP02x02
def qbj (l n : Int) : Bool := decide (0 ≤ l ∧ l < 64 ∧ 1 ≤ n ∧ n ≤ 64 - l)
def qcn (l n : Int) : Nat := if qbj l n = true then ones n * 2 ^ l.toNat else 0
def getV (l n : Int) (x : Nat) : Nat := if qbj l n = true then x / 2 ^ l.toNat &&& ones n else 0
def putE (l n : Int) (v : Nat) : Int := if qbj l n = false then 10 else if ones n < v then 11 else 0
def putX (l n : Int) (x v : Nat) : Nat := if qbj l n = false then 0 else if ones n < v then 0 else andn x (qcn l n) ||| v * 2 ^ l.toNat
theorem qfh (n : Int) (w : World) :
  Calls Tryz.prog 78 #[.int .i64 n] w fun e w' => e = .returned (.int .u64 ((ones n : Nat) : Int)) ∧ w' = w := by
 by_cases h1 : n < 1
 ·have HE : Hid (ones n = 0) := by show ones n = 0; rw [ones, if_pos h1]
  go_enter Tryz.func78, Tryz.ntmps78
  go_wp2
  go_ret
  exact ⟨by rw [HE.out]; rfl, rfl⟩
 ·by_cases h2 : 64 ≤ n
  ·have HE : Hid (ones n = 18446744073709551615) := by show ones n = _; rw [ones, if_neg h1, if_pos h2]
   go_enter Tryz.func78, Tryz.ntmps78
   go_wp2
   go_ret
   exact ⟨by rw [HE.out]; rfl, rfl⟩
  ·have HE : Hid ((ones n : Int) = IntKind.u64.wrap (IntKind.u64.wrap (2 ^ n.toNat) - 1)) := by
    show (ones n : Int) = _
    rw [ones, if_neg h1, if_neg h2]
    have h3 : 2 ^ n.toNat ≤ 2 ^ 63 := Nat.pow_le_pow_right (by omega) (by omega)
    have h4 : 0 < 2 ^ n.toNat := Nat.two_pow_pos _
    have h5 : ((2 : Int) ^ n.toNat) = ((2 ^ n.toNat : Nat) : Int) := by simp
    rw [h5, IntKind.wrap_u64, IntKind.wrap_u64]
    generalize 2 ^ n.toNat = p at *
    omega
   go_enter Tryz.func78, Tryz.ntmps78
   go_wp2
   go_ret
   exact ⟨by rw [HE.out]; rfl, rfl⟩
theorem zP02x04 {Z : Prop} (z : Z := by
 have HE : Hid (qbj l n = false) := by (show qbj l n = _; unfold qbj; rw [decide_eq_false_iff_not]; omega)
 go_enter Tryz.func114, Tryz.ntmps114
 go_wp2
 go_ret
 exact ⟨by rw [HE.out]; rfl, (Below.refl _ _).alloc (Nat.le_refl _) _⟩) : Z := z
theorem right_any (l n : Int) (w : World) :
  Calls Tryz.prog 114 #[.agg #[.int .i64 l, .int .i64 n]] w fun e w' => e = .returned (.bool (qbj l n)) ∧ Below w.heap.size w w' := by
 by_cases h1 : 0 ≤ l
 rotate_left
 ·have d1 : decide (0 ≤ l) = false := decide_eq_false h1
  exact zP02x04
 have d1 : decide (0 ≤ l) = true := decide_eq_true h1
 by_cases h2 : l < 64
 rotate_left
 ·have d2 : decide (l < 64) = false := decide_eq_false h2
  exact zP02x04
 have d2 : decide (l < 64) = true := decide_eq_true h2
 by_cases h3 : 1 ≤ n
 rotate_left
 ·have d3 : decide (1 ≤ n) = false := decide_eq_false h3
  exact zP02x04
 have d3 : decide (1 ≤ n) = true := decide_eq_true h3
 by_cases h4 : n ≤ 64 - l
 rotate_left
 ·have d4 : decide (n ≤ 64 - l) = false := decide_eq_false h4
  exact zP02x04
 have d4 : decide (n ≤ 64 - l) = true := decide_eq_true h4
 have HE : Hid (qbj l n = true) := by (show qbj l n = _; unfold qbj; rw [decide_eq_true_eq]; omega)
 go_enter Tryz.func114, Tryz.ntmps114
 go_wp2
 go_ret
 exact ⟨by rw [HE.out]; rfl, (Below.refl _ _).alloc (Nat.le_refl _) _⟩
theorem right_of {l n : Int} (h : qbj l n = true) : 0 ≤ l ∧ l < 64 ∧ 1 ≤ n ∧ n ≤ 64 - l := of_decide_eq_true h
theorem ones_eq {n : Int} (h1 : 1 ≤ n) (h2 : n ≤ 64) : ones n = 2 ^ n.toNat - 1 := by
 unfold ones
 rw [if_neg (by omega)]
 by_cases h : 64 ≤ n
 ·have e : n = 64 := by omega
  subst e; rfl
 ·rw [if_neg h]
theorem shl_lt {a i j : Nat} (ha : a < 2 ^ i) (h : i + j ≤ 64) : a * 2 ^ j < 18446744073709551616 := by
 have h1 : a * 2 ^ j < 2 ^ i * 2 ^ j := Nat.mul_lt_mul_of_pos_right ha (Nat.two_pow_pos _)
 rw [← Nat.pow_add] at h1
 have h2 : 2 ^ (i + j) ≤ 2 ^ 64 := Nat.pow_le_pow_right (by omega) h
 exact Nat.lt_of_lt_of_le h1 h2
theorem wrap_shl {a i j : Nat} (ha : a < 2 ^ i) (h : i + j ≤ 64) : IntKind.u64.wrap ((a : Int) * 2 ^ j) = ((a * 2 ^ j : Nat) : Int) := by
 have h1 := shl_lt ha h
 have h2 : ((a : Int) * 2 ^ j) = ((a * 2 ^ j : Nat) : Int) := by simp
 rw [h2, IntKind.wrap_u64]
 omega
theorem ones_pow {n : Int} (h1 : 1 ≤ n) (h2 : n ≤ 64) : ones n < 2 ^ n.toNat := by
 rw [ones_eq h1 h2]
 have : 0 < 2 ^ n.toNat := Nat.two_pow_pos _
 omega
theorem qfb (l n : Int) : qcn l n < 18446744073709551616 := by
 unfold qcn
 by_cases h : qbj l n = true
 ·rw [if_pos h]
  obtain ⟨h1, h2, h3, h4⟩ := right_of h
  exact shl_lt (ones_pow h3 (by omega)) (by omega)
 ·rw [if_neg h]; omega
theorem qab {A B C : World} (h : Below A.heap.size A B) (k : Below B.heap.size B C) : Below A.heap.size A C := h.trans (k.mono h.size)
theorem bcell {W w1 : World} (hb : Below W.heap.size W w1) : (∀ b o, b < W.heap.size → w1.cell? ⟨b, o, none⟩ = W.cell? ⟨b, o, none⟩) ∧ (∀ b o, b < W.heap.size → w1.frozen? ⟨b, o, none⟩ = W.frozen? ⟨b, o, none⟩) :=
 ⟨fun b o h => hb.cell (p := ⟨b, o, none⟩) h, fun b o h => hb.frozen (p := ⟨b, o, none⟩) h⟩
theorem zP02x01 {Z : Prop} (z : Z := by
 go_wp2_with fail
 refine (right_any l n _).mono ?_
 rintro e w1 ⟨rfl, hb⟩
 rw [hr]
 obtain ⟨hc, hf⟩ := bcell hb
 have hc0 : w1.cell? ⟨w.heap.size, 0, none⟩ = some (.int .i64 l) := by rw [hc _ _ (by simp)]; simp
 have hc1 : w1.cell? ⟨w.heap.size, 1, none⟩ = some (.int .i64 n) := by rw [hc _ _ (by simp)]; simp
 clear hc hf
 go_wp2
 go_region_held3 (fun w' => w'.cell? ⟨w.heap.size, 0, none⟩ = some (.int .i64 l) ∧ w'.cell? ⟨w.heap.size, 1, none⟩ = some (.int .i64 n)) (go_keep)
  (first | (go_at_call 78; refine (qfh _ _).mono ?_; rintro e w' ⟨rfl, rfl⟩))
 all_goals go_wp2
 all_goals go_ret
 all_goals exact ⟨by rw [HE.out]; rfl, (((Below.refl _ _).alloc (Nat.le_refl _) _).trans (hb.mono (by simp))).drew⟩) : Z := z
theorem zP02x03 {Z : Prop} (z : Z := by
 go_wp2_with fail
 refine (right_any l n _).mono ?_
 rintro e w1 ⟨rfl, hb⟩
 rw [hr]
 go_wp2
 go_ret
 exact ⟨by rw [HE.out]; rfl, ((Below.refl _ _).alloc (Nat.le_refl _) _).trans (hb.mono (by simp))⟩) : Z := z
theorem mask_any (l n : Int) (w : World) :
  Calls Tryz.prog 75 #[.agg #[.int .i64 l, .int .i64 n]] w fun e w' => e = .returned (.int .u64 ((qcn l n : Nat) : Int)) ∧ Below w.heap.size w w' := by
 cases hr : qbj l n
 ·have HE : Hid (qcn l n = 0) := by show qcn l n = 0; rw [qcn, hr]; rfl
  go_enter Tryz.func75, Tryz.ntmps75
  exact zP02x03
 ·obtain ⟨h1, h2, h3, h4⟩ := right_of hr
  have HE : Hid ((qcn l n : Int) = IntKind.u64.wrap ((ones n : Int) * 2 ^ l.toNat)) := by
   show (qcn l n : Int) = _
   rw [qcn, hr, if_pos rfl, wrap_shl (ones_pow h3 (by omega)) (by omega)]
  go_enter Tryz.func75, Tryz.ntmps75
  exact zP02x01
theorem div_lt (x k : Nat) (hx : x < 18446744073709551616) : x / 2 ^ k < 18446744073709551616 := Nat.lt_of_le_of_lt (Nat.div_le_self _ _) hx
theorem get_any (l n : Int) (x : Nat) (hx : x < 18446744073709551616) (w : World) :
  Calls Tryz.prog 76 #[.agg #[.int .i64 l, .int .i64 n], .int .u64 x] w fun e w' => e = .returned (.int .u64 ((getV l n x : Nat) : Int)) ∧ Below w.heap.size w w' := by
 cases hr : qbj l n
 ·have HE : Hid (getV l n x = 0) := by show getV l n x = 0; rw [getV, hr]; rfl
  go_enter Tryz.func76, Tryz.ntmps76
  exact zP02x03
 ·obtain ⟨h1, h2, h3, h4⟩ := right_of hr
  have HE : Hid ((getV l n x : Int) = bits BinOp.and IntKind.u64 ((x : Int) / 2 ^ l.toNat) (ones n : Int)) := by
   show (getV l n x : Int) = _
   have e : ((x : Int) / 2 ^ l.toNat) = ((x / 2 ^ l.toNat : Nat) : Int) := by simp
   rw [getV, hr, if_pos rfl, e, bits_and_u64_nat _ _ (div_lt _ _ hx) (ones_lt n)]
  go_enter Tryz.func76, Tryz.ntmps76
  exact zP02x01
theorem put_any (l n : Int) (x v : Nat) (hx : x < 18446744073709551616) (w : World) :
  Calls Tryz.prog 113 #[.agg #[.int .i64 l, .int .i64 n], .int .u64 x, .int .u64 v] w fun e w' => e = .returned (.tuple #[.int .u64 ((putX l n x v : Nat) : Int), .int .i64 (putE l n v)]) ∧ Below w.heap.size w w' := by
 cases hr : qbj l n
 ·have HE : Hid (putX l n x v = 0 ∧ putE l n v = 10) := by show _ ∧ _; unfold putX putE; rw [if_pos hr, if_pos hr]; exact ⟨rfl, rfl⟩
  go_enter Tryz.func113, Tryz.ntmps113
  go_wp2_with fail
  refine (right_any l n _).mono ?_
  rintro e w1 ⟨rfl, hb⟩
  rw [hr]
  go_wp2
  go_ret2
  exact ⟨by rw [HE.out.1, HE.out.2]; rfl, ((Below.refl _ _).alloc (Nat.le_refl _) _).trans (hb.mono (by simp))⟩
 ·obtain ⟨h1, h2, h3, h4⟩ := right_of hr
  have hrf : ¬ qbj l n = false := by rw [hr]; decide
  go_enter Tryz.func113, Tryz.ntmps113
  go_wp2_with fail
  refine (right_any l n _).mono ?_
  rintro e w1 ⟨rfl, hb⟩
  rw [hr]
  obtain ⟨hc, hf⟩ := bcell hb
  have hc0 : w1.cell? ⟨w.heap.size, 0, none⟩ = some (.int .i64 l) := by rw [hc _ _ (by simp)]; simp
  have hc1 : w1.cell? ⟨w.heap.size, 1, none⟩ = some (.int .i64 n) := by rw [hc _ _ (by simp)]; simp
  have hsz : w.heap.size < w1.heap.size := by have := hb.size; simp at this; omega
  have hbb : Below w.heap.size w w1 := ((Below.refl _ _).alloc (Nat.le_refl _) _).trans (hb.mono (by simp))
  clear hc hf hb
  by_cases hbig : ones n < v
  ·have HE : Hid (putX l n x v = 0 ∧ putE l n v = 11) := by show _ ∧ _; unfold putX putE; rw [if_neg hrf, if_neg hrf, if_pos hbig, if_pos hbig]; exact ⟨rfl, rfl⟩
   go_wp2_with (go_at_call 78; refine (qfh _ _).mono ?_; rintro e w' ⟨rfl, rfl⟩)
   go_ret2
   exact ⟨by rw [HE.out.1, HE.out.2]; rfl, hbb⟩
  ·have hvn : v < 2 ^ n.toNat := by
    rw [ones_eq h3 (by omega)] at hbig
    have : 0 < 2 ^ n.toNat := Nat.two_pow_pos _
    omega
   have HE : Hid ((putX l n x v : Int) = bits BinOp.or IntKind.u64 (bits BinOp.andNot IntKind.u64 (x : Int) (qcn l n : Int)) (IntKind.u64.wrap ((v : Int) * 2 ^ l.toNat)) ∧ putE l n v = 0) := by
    show _ ∧ _; unfold putX putE
    rw [if_neg hrf, if_neg hrf, if_neg hbig, if_neg hbig, wrap_shl hvn (by omega), qfc _ _ hx (qfb l n), bits_or_u64_nat _ _ (Nat.lt_of_le_of_lt (andn_le _ _) hx) (shl_lt hvn (by omega))]
    exact ⟨rfl, rfl⟩
   clear hvn
   go_wp2_with (go_at_call 78; refine (qfh _ _).mono ?_; rintro e w' ⟨rfl, rfl⟩)
   go_region_held3 (fun w' => w'.cell? ⟨w.heap.size, 0, none⟩ = some (.int .i64 l) ∧ w'.cell? ⟨w.heap.size, 1, none⟩ = some (.int .i64 n)) (first | go_keep | (refine ⟨cell_later hbm ?_, cell_later hbm ?_⟩ <;> go_keep))
    (first | (go_at_call 75; refine (mask_any _ _ _).mono ?_; rintro e w' ⟨rfl, hbm⟩))
   all_goals go_wp2
   all_goals go_ret2
   all_goals exact ⟨by rw [HE.out.1, HE.out.2]; rfl, hbb.drew.trans (hbm.mono (by simp; omega))⟩
def qaq (x : Nat) (n : Int) : Bool := (x &&& ones n) == 0
def downV (x : Nat) (n : Int) : Nat := andn x (ones n)
theorem qdt (x : Nat) (n : Int) (hx : x < 18446744073709551616) (w : World) :
  Calls Tryz.prog 51 #[.int .u64 x, .int .i64 n] w fun e w' => e = .returned (.bool (qaq x n)) ∧ w' = w := by
 have HE : Hid (qaq x n = (bits BinOp.and IntKind.u64 (x : Int) (ones n : Int) == 0)) := by
  show qaq x n = _
  rw [bits_and_u64_nat _ _ hx (ones_lt n), qaq, Bool.eq_iff_iff]; simp
 go_enter Tryz.func51, Tryz.ntmps51
 go_wp2_with (go_at_call 78; refine (qfh _ _).mono ?_; rintro e w' ⟨rfl, rfl⟩)
 go_ret
 exact ⟨by rw [HE.out]; rfl, rfl⟩
theorem down_any (x : Nat) (n : Int) (hx : x < 18446744073709551616) (w : World) :
  Calls Tryz.prog 42 #[.int .u64 x, .int .i64 n] w fun e w' => e = .returned (.int .u64 ((downV x n : Nat) : Int)) ∧ w' = w := by
 have HE : Hid ((downV x n : Int) = bits BinOp.andNot IntKind.u64 (x : Int) (ones n : Int)) := by
  show (downV x n : Int) = _
  rw [qfc _ _ hx (ones_lt n)]; rfl
 go_enter Tryz.func42, Tryz.ntmps42
 go_wp2_with (go_at_call 78; refine (qfh _ _).mono ?_; rintro e w' ⟨rfl, rfl⟩)
 go_ret
 exact ⟨by rw [HE.out]; rfl, rfl⟩
theorem or_lt (a b : Nat) (ha : a < 18446744073709551616) (hb : b < 18446744073709551616) : a ||| b < 18446744073709551616 :=
 Nat.or_lt_two_pow (n := 64) ha hb
def qdk (x : Nat) (fs : List (Int × Int)) : Nat := fs.foldl (fun x f => andn x (qcn f.1 f.2)) x
theorem restV_lt (x : Nat) (hx : x < 18446744073709551616) : ∀ fs : List (Int × Int), qdk x fs < 18446744073709551616
 | [] => hx
 | f :: fs => by
  show qdk (andn x (qcn f.1 f.2)) fs < _
  exact restV_lt _ (Nat.lt_of_le_of_lt (andn_le _ _) hx) fs
theorem restV_snoc (x : Nat) (fs : List (Int × Int)) (f : Int × Int) : qdk x (fs ++ [f]) = andn (qdk x fs) (qcn f.1 f.2) := by
 simp [qdk, List.foldl_append]
theorem rest_some (x : Nat) (hx : x < 18446744073709551616) (fs : List (Int × Int)) (b : Nat) (c : Nat) (hlen : fs.length < 1000000) (w : World)
  (hc0 : ∀ i, i < fs.length → w.cell? ⟨b, i * 2, none⟩ = some (.int .i64 (fs.getD i (0, 0)).1)) (hc1 : ∀ i, i < fs.length → w.cell? ⟨b, i * 2 + 1, none⟩ = some (.int .i64 (fs.getD i (0, 0)).2)) :
  Calls Tryz.prog 74 #[.int .u64 x, .slice (some ⟨b, 0, none⟩) fs.length c] w fun e w' => e = .returned (.int .u64 ((qdk x fs : Nat) : Int)) ∧ Below w.heap.size w w' := by
 go_enter Tryz.func74, Tryz.ntmps74
 go_wp2
 go_loopw [0, 9] (fun t i wr => ∃ k : Nat, k ≤ fs.length ∧ i = .int .i64 k ∧ t = .int .u64 ((qdk x (fs.take k) : Nat) : Int) ∧ Below w.heap.size w wr) (fun _ i _ => fs.length - (intOf i).toNat)
 case atStart => exact ⟨0, by omega, rfl, rfl, Below.refl _ _⟩
 case round =>
  obtain ⟨k, hk, rfl, rfl, hR⟩ := hrel
  have hlt := restV_lt x hx (fs.take k)
  by_cases hkn : k < fs.length
  ·have e0 := cell_later hR (hc0 k hkn)
   have e1 := cell_later hR (hc1 k hkn)
   have hlast : fs.take (k + 1) = fs.take k ++ [fs.getD k (0, 0)] := by
    rw [List.take_succ_eq_append_getElem hkn]; simp [hkn]
   have HN : Hid (qdk x (fs.take (k + 1)) = andn (qdk x (fs.take k)) (qcn (fs.getD k (0, 0)).1 (fs.getD k (0, 0)).2)) := by
    show qdk x (fs.take (k + 1)) = _
    rw [hlast, restV_snoc]
   clear hc0 hc1 hlast
   generalize fs.getD k (0, 0) = f at *
   generalize qdk x (fs.take k) = y at *
   obtain ⟨l, n⟩ := f
   go_wp2_with (go_at_call 75; refine (mask_any _ _ _).mono ?_; rintro e w' ⟨rfl, hbm⟩)
   refine ⟨⟨k + 1, by omega, by go_num, ?_, qab (hR.alloc hR.size _) hbm⟩, by simp [intOf]; omega⟩
   rw [HN.out, qfc _ _ hlt (qfb l n)]
  ·have ek : k = fs.length := by omega
   subst ek
   rw [List.take_length]
   clear hc0 hc1
   go_wp2
   go_ret
   exact ⟨rfl, hR⟩
end Go.Proofs.YtfdbdeckohaneaaGreatDoor
