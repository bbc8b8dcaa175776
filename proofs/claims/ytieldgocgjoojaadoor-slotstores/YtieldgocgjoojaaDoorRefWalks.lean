/- The walks of the document's own answers for layer 1: bits of a word, the word of bits. -/
import Derived.Test.YtieldgocgjoojaaDoorBitMath
import Derived.Test.YtieldgocgjoojaaDoorRows
import Derived.Deep.WholeRow
import Derived.Deep.RegionHeld3
import Derived.Laws.CopyOwn
namespace Go.Proofs.YtieldgocgjoojaaDoor
open Go.RowKit

theorem info_arr (f : Nat → Bool) : (Tryd.prog.info? 87).map (·.size) = some (arr f).size := by
  rw [arr_size]; kernel_rfl

/-- What the round of Bits keeps. -/
def BitsRel (x : Nat) (w : World) (k : Nat) (wr : World) : Prop :=
  Below w.heap.size w wr ∧ wr.heap.size = w.heap.size + 2 ∧ wr.heap[w.heap.size]? = some (.cells (arr fun _ => false) 87 (0, 0)) ∧
  wr.heap[w.heap.size + 1]? = some (.cells (arr fun i => decide (i < k) && x.testBit i) 87 (0, 0))

theorem bitsRel_step {x k : Nat} {w wr : World} (h : BitsRel x w k wr) (hk : k < 64) : BitsRel x w (k + 1) (wr.setCell ⟨w.heap.size + 1, k, none⟩ (.bool (x.testBit k))) := by
  obtain ⟨h1, h2, h3, h4⟩ := h
  refine ⟨h1.setCell (by simp) _, by simpa using h2, ?_, ?_⟩
  · rw [heap_setCell_other _ _ _ _ (by simp)]; exact h3
  · rw [heap_setCell_same _ _ _ _ _ _ h4, arr_set _ _ _ hk]
    congr 2
    apply arr_congr
    intro i _
    by_cases e : i = k
    · subst e; simp
    · rw [if_neg e]; congr 1; rw [decide_eq_decide]; omega

set_option maxHeartbeats 400000 in
theorem bits_any (x : Nat) (hx : x < 18446744073709551616) (w : World) :
    Calls Tryd.prog 53 #[.int .u64 x] w fun e w' => e = .returned (.agg (arr x.testBit)) ∧ Below w.heap.size w w' := by
  go_enter Tryd.func53, Tryd.ntmps53
  go_wp2
  go_loopw [0, 4] (fun t i wr => ∃ k : Nat, k ≤ 64 ∧ i = .int .i64 k ∧ t = .int .u64 ((x / 2 ^ k : Nat) : Int) ∧ BitsRel x w k wr) (fun _ i _ => 64 - (intOf i).toNat)
  case atStart =>
    refine ⟨0, by omega, rfl, by simp, ((Below.refl _ _).alloc (Nat.le_refl _) _).alloc (by simp) _, by simp, ?_, ?_⟩
    · rw [heap_alloc2_old]; rfl
    · rw [heap_alloc2_new]; rfl
  case round =>
    obtain ⟨k, hk, rfl, rfl, hR⟩ := hrel
    have hcell : k < 64 → wr.cell? ⟨w.heap.size + 1, k, none⟩ = some (.bool false) := fun h => by
      rw [cell_of_row _ _ _ _ _ _ hR.2.2.2, arr_get _ _ h]; simp
    have hfr : wr.frozen? ⟨w.heap.size + 1, k, none⟩ = false := frozen_of_row _ _ _ _ _ hR.2.2.2
    have HT : Hid (x.testBit k = decide (x / 2 ^ k % 2 = 1)) := by
      show x.testBit k = _
      rw [Nat.testBit_eq_decide_div_mod_eq]
    have HN : Hid (x / 2 ^ (k + 1) = x / 2 ^ k / 2) := by
      show x / 2 ^ (k + 1) = _
      rw [Nat.pow_succ, Nat.div_div_eq_div_mul]
    have hy : x / 2 ^ k < 18446744073709551616 := Nat.lt_of_le_of_lt (Nat.div_le_self _ _) hx
    generalize x / 2 ^ k = y at *
    by_cases hlt : k < 64
    · have hc := hcell hlt
      clear hcell
      go_wp2
      refine ⟨⟨k + 1, by omega, by go_num, ?_, ?_⟩, by simp [intOf]; omega⟩
      · rw [HN.out]; simp
      · have e : ((y : Int) % 2 == 1) = x.testBit k := by
          rw [HT.out, Bool.eq_iff_iff]; simp; omega
        rw [e]
        exact bitsRel_step hR hlt
    · have e64 : k = 64 := by omega
      subst e64
      obtain ⟨hB, hsz, hb0, hb1⟩ := hR
      have hE : (arr fun i => decide (i < 64) && x.testBit i) = arr x.testBit := arr_congr fun i hi => by simp [hi]
      rw [hE] at hb1
      clear hcell hE HN HT hfr hsz
      go_wp2_with (first
        | (refine wpList_load_row rfl 87 _ rfl (w.heap.size + 1) rfl _ _ _ _ hb1 Tryd.underlying87 rfl (info_arr _) ?_)
        | (refine wpList_store_row rfl 87 _ _ rfl w.heap.size (arr x.testBit) rfl rfl 87 _ hb0 (info_arr _) (by rw [arr_size, arr_size]) (arr_one _) ?_))
      refine bodyPost_ret (v := .agg (arr x.testBit)) ?_ rfl ⟨rfl, below_setRow hB (Nat.le_refl _) _⟩
      exact results_cell_row rfl _ _ w.heap.size 87 _ _ _ rfl (setRow_heap _ _ _ _ _ _ hb0) Tryd.underlying87 rfl (info_arr _)

set_option maxHeartbeats 400000 in
theorem word_any (f : Nat → Bool) (w : World) :
    Calls Tryd.prog 54 #[.agg (arr f)] w fun e w' => e = .returned (.int .u64 ((wv f 0 64 : Nat) : Int)) ∧ Below w.heap.size w w' := by
  go_enter Tryd.func54, Tryd.ntmps54
  go_wp2
  go_loop [3, 4] (fun t i => ∃ k : Nat, k ≤ 64 ∧ i = .int .i64 ((k : Int) - 1) ∧ t = .int .u64 ((wv f k (64 - k) : Nat) : Int)) (fun _ i => (intOf i + 1).toNat)
  case atStart => exact ⟨64, Nat.le_refl _, rfl, rfl⟩
  case round =>
    obtain ⟨k, hk, rfl, rfl⟩ := hrel
    by_cases hlt : 1 ≤ k
    · obtain ⟨j, rfl⟩ : ∃ j, k = j + 1 := ⟨k - 1, by omega⟩
      have hj : j < 64 := by omega
      have hge : decide ((0 : Int) ≤ (j : Int)) = true := by simp
      have hc : (w.alloc (.cells (arr f) 87)).cell? ⟨w.heap.size, j, none⟩ = some (.bool (f j)) := by
        rw [cell_of_row _ _ _ _ _ _ (heap_alloc_new _ _), arr_get _ _ hj]
      have HN : Hid (wv f j (64 - j) = 2 * wv f (j + 1) (64 - (j + 1)) + (f j).toNat) := by
        show wv f j (64 - j) = _
        have e : 64 - j = (64 - (j + 1)) + 1 := by omega
        rw [e, wv]
      have hb : wv f (j + 1) (64 - (j + 1)) < 9223372036854775808 := by
        have h1 := wv_lt f (64 - (j + 1)) (j + 1)
        have h2 : 2 ^ (64 - (j + 1)) ≤ 2 ^ 63 := Nat.pow_le_pow_right (by omega) (by omega)
        omega
      generalize wv f (j + 1) (64 - (j + 1)) = y at *
      have ej : ((j + 1 : Nat) : Int) - 1 = (j : Int) := by omega
      rw [ej]
      cases hf : f j
      all_goals rw [hf] at hc
      all_goals go_wp2
      all_goals exact ⟨⟨j, by omega, rfl, by rw [HN.out, hf]; simp; omega⟩, by simp [intOf]⟩
    · have e0 : k = 0 := by omega
      subst e0
      go_wp2
      go_ret
      exact ⟨rfl, (Below.refl _ _).alloc (Nat.le_refl _) _⟩

/-- What the round of Get keeps: H is the number of the word's own bits' block. -/
def GetRel (x l : Nat) (w : World) (H : Nat) (k : Nat) (wr : World) : Prop :=
  Below w.heap.size w wr ∧ wr.heap.size = H + 2 ∧ wr.heap[H]? = some (.cells (arr x.testBit) 87 (0, 0)) ∧
  wr.heap[H + 1]? = some (.cells (arr fun i => decide (i < k) && x.testBit (l + i)) 87 (0, 0))

theorem getRel_step {x l k H : Nat} {w wr : World} (hH : w.heap.size ≤ H) (h : GetRel x l w H k wr) (hk : k < 64) : GetRel x l w H (k + 1) (wr.setCell ⟨H + 1, k, none⟩ (.bool (x.testBit (l + k)))) := by
  obtain ⟨h1, h2, h3, h4⟩ := h
  refine ⟨h1.setCell (by simp; omega) _, by simpa using h2, ?_, ?_⟩
  · rw [heap_setCell_other _ _ _ _ (by simp)]; exact h3
  · rw [heap_setCell_same _ _ _ _ _ _ h4, arr_set _ _ _ hk]
    congr 2
    apply arr_congr
    intro i _
    by_cases e : i = k
    · subst e; simp
    · rw [if_neg e]; congr 1; rw [decide_eq_decide]; omega

set_option maxHeartbeats 400000 in
theorem refGet_any (x l n : Nat) (hx : x < 18446744073709551616) (hn : l + n ≤ 64) (w : World) :
    Calls Tryd.prog 35 #[.int .u64 x, .int .i64 l, .int .i64 n] w fun e w' => e = .returned (.int .u64 ((wv (fun i => decide (i < n) && x.testBit (l + i)) 0 64 : Nat) : Int)) ∧ Below w.heap.size w w' := by
  go_enter Tryd.func35, Tryd.ntmps35
  go_wp2_with fail
  refine (bits_any x hx _).mono ?_
  rintro e w1 ⟨rfl, hb1⟩
  have hsz := hb1.size
  go_wp2_with (first
    | (refine wpList_store_row rfl 87 _ _ rfl w1.heap.size (arr x.testBit) rfl rfl 87 _ (heap_alloc_new _ _) (info_arr _) (by rw [arr_size]; rfl) (arr_one _) ?_; rw [World.setRow_alloc_new]))
  go_loopw [9] (fun i wr => ∃ k : Nat, k ≤ n ∧ i = .int .i64 k ∧ GetRel x l w w1.heap.size k wr) (fun i _ => n - (intOf i).toNat)
  case atStart =>
    refine ⟨0, by omega, rfl, (hb1.alloc hsz _).alloc (by simp; omega) _, by simp, ?_, ?_⟩
    · rw [heap_alloc2_old]
    · rw [heap_alloc2_new]; rfl
  case round =>
    obtain ⟨k, hk, rfl, hR⟩ := hrel
    by_cases hlt : k < n
    · have hi1 : (0 : Int) ≤ (l : Int) + (k : Int) := by omega
      have hi2 : (l : Int) + (k : Int) < 64 := by omega
      have hc1 : wr.cell? ⟨w1.heap.size, l + k, none⟩ = some (.bool (x.testBit (l + k))) := by
        rw [cell_of_row _ _ _ _ _ _ hR.2.2.1, arr_get _ _ (by omega)]
      have hc2 : wr.cell? ⟨w1.heap.size + 1, k, none⟩ = some (.bool false) := by
        rw [cell_of_row _ _ _ _ _ _ hR.2.2.2, arr_get _ _ (by omega)]; simp
      have hfr : wr.frozen? ⟨w1.heap.size + 1, k, none⟩ = false := frozen_of_row _ _ _ _ _ hR.2.2.2
      have et : ((l : Int) + (k : Int)).toNat = l + k := by omega
      go_wp2
      refine ⟨⟨k + 1, by omega, by go_num, ?_⟩, by simp [intOf]; omega⟩
      exact getRel_step hsz hR (by omega)
    · have ek : k = n := by omega
      subst ek
      obtain ⟨hB, hs2, hc0, hc1⟩ := hR
      clear hb1
      go_wp2_with (first
        | (refine wpList_load_row rfl 87 _ rfl (w1.heap.size + 1) rfl _ _ _ _ hc1 Tryd.underlying87 rfl (info_arr _) ?_))
      refine (word_any _ _).mono ?_
      rintro e w2 ⟨rfl, hb2⟩
      go_wp2
      go_ret
      exact ⟨rfl, hB.trans (hb2.mono (by omega))⟩

/-- The bits of a word with those of v in a field, the first k of them. -/
def putf (x v l n k : Nat) (j : Nat) : Bool := if l ≤ j ∧ j < l + n ∧ j < l + k then v.testBit (j - l) else x.testBit j

/-- The answer of Put. -/
def putVal (x l n v : Nat) : Nat := if v < 2 ^ n then wv (putf x v l n 64) 0 64 else 0
def fitsB (v n : Nat) : Bool := decide (v < 2 ^ n)

/-- What the round of Put keeps: H, G are the numbers of the two words' bits' blocks. -/
def PutRel (x v l n : Nat) (w : World) (H G : Nat) (k : Nat) (wr : World) : Prop :=
  Below w.heap.size w wr ∧ wr.heap.size = G + 1 ∧ wr.heap[H]? = some (.cells (arr (putf x v l n k)) 87 (0, 0)) ∧
  wr.heap[G]? = some (.cells (arr v.testBit) 87 (0, 0))

theorem putf_step (x v l n k : Nat) (hn : l + n ≤ 64) (hk : k < n) : (arr (putf x v l n k)).setIfInBounds (l + k) (.bool (v.testBit k)) = arr (putf x v l n (k + 1)) := by
  rw [arr_set _ _ _ (by omega)]
  apply arr_congr
  intro i _
  unfold putf
  by_cases e : i = l + k
  · subst e
    have e2 : l + k - l = k := by omega
    rw [if_pos rfl, if_pos (by omega), e2]
  · rw [if_neg e]
    by_cases c : l ≤ i ∧ i < l + n ∧ i < l + k
    · rw [if_pos c, if_pos (by omega)]
    · rw [if_neg c, if_neg (by omega)]
theorem putf_over (x v l n k : Nat) (hk : n ≤ k) : putf x v l n k = putf x v l n (k + 1) := by
  funext j
  unfold putf
  by_cases c : l ≤ j ∧ j < l + n ∧ j < l + k
  · rw [if_pos c, if_pos (by omega)]
  · rw [if_neg c, if_neg (by omega)]

theorem putRel_step {x v l n k H G : Nat} {w wr : World} (hH : w.heap.size ≤ H) (hG : H < G) (h : PutRel x v l n w H G k wr) (hn : l + n ≤ 64) (hk : k < n) : PutRel x v l n w H G (k + 1) (wr.setCell ⟨H, l + k, none⟩ (.bool (v.testBit k))) := by
  obtain ⟨h1, h2, h3, h4⟩ := h
  refine ⟨h1.setCell hH _, by simpa using h2, ?_, ?_⟩
  · rw [heap_setCell_same _ _ _ _ _ _ h3, putf_step _ _ _ _ _ hn hk]
  · rw [heap_setCell_other _ _ _ _ (by simp; omega)]; exact h4

theorem low_of_bits (v n : Nat) (hv : v < 2 ^ 64) (h : ∀ i, n ≤ i → i < 64 → v.testBit i = false) : v < 2 ^ n := by
  apply Nat.lt_pow_two_of_testBit
  intro i hi
  by_cases h64 : i < 64
  · exact h i hi h64
  · exact high_bit v i hv (by omega)

/-- What the round of Down keeps. -/
def DownRel (x : Nat) (w : World) (H : Nat) (k : Nat) (wr : World) : Prop :=
  Below w.heap.size w wr ∧ wr.heap.size = H + 1 ∧ wr.heap[H]? = some (.cells (arr fun i => decide (k ≤ i) && x.testBit i) 87 (0, 0))
theorem downRel_step {x k H : Nat} {w wr : World} (hH : w.heap.size ≤ H) (h : DownRel x w H k wr) (hk : k < 64) : DownRel x w H (k + 1) (wr.setCell ⟨H, k, none⟩ (.bool false)) := by
  obtain ⟨h1, h2, h3⟩ := h
  refine ⟨h1.setCell hH _, by simpa using h2, ?_⟩
  rw [heap_setCell_same _ _ _ _ _ _ h3, arr_set _ _ _ hk]
  congr 2
  apply arr_congr
  intro i _
  by_cases e : i = k
  · subst e; simp; omega
  · rw [if_neg e]; congr 1; rw [decide_eq_decide]; omega

set_option maxHeartbeats 800000 in
theorem refDown_any (x : Nat) (n : Int) (hx : x < 18446744073709551616) (h0 : 0 ≤ n) (w : World) :
    Calls Tryd.prog 73 #[.int .u64 x, .int .i64 n] w fun e w' => e = .returned (.int .u64 ((wv (fun i => decide (n ≤ (i : Int)) && x.testBit i) 0 64 : Nat) : Int)) ∧ Below w.heap.size w w' := by
  go_enter Tryd.func73, Tryd.ntmps73
  go_wp2_with fail
  refine (bits_any x hx _).mono ?_
  rintro e w1 ⟨rfl, hb1⟩
  have hsz := hb1.size
  go_wp2_with (first
    | (refine wpList_store_row rfl 87 _ _ rfl w1.heap.size (arr x.testBit) rfl rfl 87 _ (heap_alloc_new _ _) (info_arr _) (by rw [arr_size]; rfl) (arr_one _) ?_; rw [World.setRow_alloc_new]))
  go_loopw [6] (fun i wr => ∃ k : Nat, k ≤ 64 ∧ (k : Int) ≤ n ∧ i = .int .i64 k ∧ DownRel x w w1.heap.size k wr) (fun i _ => 64 - (intOf i).toNat)
  case atStart =>
    refine ⟨0, by omega, by omega, rfl, hb1.alloc hsz _, by simp, ?_⟩
    rw [heap_alloc_new]; congr 2
  case round =>
    obtain ⟨k, hk, hkn, rfl, hR⟩ := hrel
    by_cases hlt : k < 64 ∧ (k : Int) < n
    · obtain ⟨hl1, hl2⟩ := hlt
      have hc2 : wr.cell? ⟨w1.heap.size, k, none⟩ = some (.bool (x.testBit k)) := by
        rw [cell_of_row _ _ _ _ _ _ hR.2.2, arr_get _ _ (by omega)]; simp
      have hfr : wr.frozen? ⟨w1.heap.size, k, none⟩ = false := frozen_of_row _ _ _ _ _ hR.2.2
      go_wp2
      refine ⟨⟨k + 1, by omega, by omega, by go_num, downRel_step hsz hR hl1⟩, by simp [intOf]; omega⟩
    · obtain ⟨hB, hs2, hc0⟩ := hR
      have hE : (arr fun i => decide (k ≤ i) && x.testBit i) = arr (fun i => decide (n ≤ (i : Int)) && x.testBit i) := arr_congr fun i hi => by
        congr 1; rw [decide_eq_decide]; omega
      rw [hE] at hc0
      clear hE hb1
      by_cases hkn2 : (k : Int) < n
      · have h64 : ¬ (k : Int) < 64 := by omega
        have hd1 : decide ((k : Int) < n) = true := decide_eq_true hkn2
        have hd2 : decide ((k : Int) < 64) = false := decide_eq_false h64
        clear hlt
        go_wp2_with (first
          | (refine wpList_load_row rfl 87 _ rfl w1.heap.size rfl _ _ _ _ hc0 Tryd.underlying87 rfl (info_arr _) ?_))
        refine (word_any _ _).mono ?_
        rintro e w3 ⟨rfl, hb3⟩
        go_wp2
        go_ret
        exact ⟨rfl, hB.trans (hb3.mono (by omega))⟩
      · have hd1 : decide ((k : Int) < n) = false := decide_eq_false hkn2
        clear hlt
        go_wp2_with (first
          | (refine wpList_load_row rfl 87 _ rfl w1.heap.size rfl _ _ _ _ hc0 Tryd.underlying87 rfl (info_arr _) ?_))
        refine (word_any _ _).mono ?_
        rintro e w3 ⟨rfl, hb3⟩
        go_wp2
        go_ret
        exact ⟨rfl, hB.trans (hb3.mono (by omega))⟩
end Go.Proofs.YtieldgocgjoojaaDoor
