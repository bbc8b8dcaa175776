/- P28 -/
import Derived.Test.YtfdbdeckohaneaaGreatDoorP24
set_option maxHeartbeats 16000000
set_option maxRecDepth 100000
namespace Go.Proofs.YtfdbdeckohaneaaGreatDoor.TR
open Go.RowKit
abbrev En.ar (e : En) : Array Value := #[.int .i64 e.aid, .int .u64 (e.va : Int), .int .i64 e.lv, .int .u64 (e.tb : Int)]
def bstI (p : En → Bool) (l : List En) : Nat → En
 | 0 => e0
 | i + 1 => if (p (gE l i) && decide ((bstI p l i).lv ≤ (gE l i).lv)) = true then gE l i else bstI p l i
def bstE (p : En → Bool) (l : List En) : En := bstI p l l.length
theorem bst_no {p : En → Bool} {l : List En} {i : Nat} (h : p (gE l i) = false) : bstI p l (i + 1) = bstI p l i := by
 show (if _ then _ else _) = _
 rw [h, Bool.false_and, if_neg (by decide)]
theorem bst_low {p : En → Bool} {l : List En} {i : Nat} (h : ¬ (bstI p l i).lv ≤ (gE l i).lv) : bstI p l (i + 1) = bstI p l i := by
 show (if _ then _ else _) = _
 rw [decide_eq_false h, Bool.and_false, if_neg (by decide)]
theorem bst_yes {p : En → Bool} {l : List En} {i : Nat} (h : p (gE l i) = true) (h1 : (bstI p l i).lv ≤ (gE l i).lv) : bstI p l (i + 1) = gE l i := by
 show (if _ then _ else _) = _
 rw [h, decide_eq_true h1, if_pos (by decide)]
theorem row4' {w1 : World} {g t : Nat} {c0 c1 c2 c3 : Value} (v0 v1 v2 v3 : Value) (hh : w1.heap[g]? = some (.cells #[c0, c1, c2, c3] t (0, 0))) :
  ((((w1.setCell ⟨g, 0, none⟩ v0).setCell ⟨g, 1, none⟩ v1).setCell ⟨g, 2, none⟩ v2).setCell ⟨g, 3, none⟩ v3).heap[g]? = some (.cells #[v0, v1, v2, v3] t (0, 0)) := by
 have h0 := heap_setCell_same _ g 0 _ _ v0 hh
 simp only [List.setIfInBounds_toArray, List.set_cons_zero] at h0
 have h1 := heap_setCell_same _ g 1 _ _ v1 h0
 simp only [List.setIfInBounds_toArray, List.set_cons_zero, List.set_cons_succ] at h1
 have h2 := heap_setCell_same _ g 2 _ _ v2 h1
 simp only [List.setIfInBounds_toArray, List.set_cons_zero, List.set_cons_succ] at h2
 have h3 := heap_setCell_same _ g 3 _ _ v3 h2
 simp only [List.setIfInBounds_toArray, List.set_cons_zero, List.set_cons_succ] at h3
 exact h3
theorem best_c {w : World} {X : Nat → Prop} {t : Nat} {most : Int} {l : List En} (h : Buf w X t most l) (hn : l.length ≤ 1000) (i0 : Int) (x : Nat) (hx : x < 18446744073709551616) :
  Calls Tryz.prog 130 #[.pointer (some ⟨t, 0, none⟩), .int .i64 i0, .int .u64 x] w fun r w' => r = .returned (.tuple #[(bstE (fun e => mB e i0 x) l).v, .bool (decide (1 ≤ (bstE (fun e => mB e i0 x) l).lv))]) ∧ Below w.heap.size w w' := by
 obtain ⟨v, h⟩ := h
 obtain ⟨ad, cap, rfl, hf, hr⟩ := h.form
 have hM := fun e h1 h3 w1 => qcm e h1 h3 i0 x hx w1
 have HRE : Hid (bstE (fun e => mB e i0 x) l = bstI (fun e => mB e i0 x) l l.length) := rfl
 have HZ : Hid (bstI (fun e => mB e i0 x) l 0 = e0) := rfl
 have HNO : Hid (∀ i, mB (gE l i) i0 x = false → bstI (fun e => mB e i0 x) l (i + 1) = bstI (fun e => mB e i0 x) l i) := fun i h1 => bst_no h1
 have HLO : Hid (∀ i, (gE l i).lv < (bstI (fun e => mB e i0 x) l i).lv → bstI (fun e => mB e i0 x) l (i + 1) = bstI (fun e => mB e i0 x) l i) := fun i h1 => bst_low (by omega)
 have HYES : Hid (∀ i, mB (gE l i) i0 x = true → (bstI (fun e => mB e i0 x) l i).lv ≤ (gE l i).lv → bstI (fun e => mB e i0 x) l (i + 1) = gE l i) := fun i h1 h2 => bst_yes h1 h2
 have HM := Hid.mk hM
 have HR := Hid.mk hr
 have HOK : Hid (∀ e ∈ l, 1 ≤ e.lv ∧ e.lv ≤ 3) := fun e he => qej (h.ok e he).2
 have hlI : (l.length : Int) ≤ 1000 := by omega
 obtain ⟨-, c1⟩ := qaz h.row
 have c1a := fun o1 o2 => cell_later (qac (w.alloc o1) o2) (cell_later (qac w o1) c1)
 clear h hf hr hM hn hx c1
 generalize bstE (fun e => mB e i0 x) l = FE at *
 generalize bstI (fun e => mB e i0 x) l = fI at *
 go_enter Tryz.func130, Tryz.ntmps130
 go_wp2
 clear c1a
 go_loopw [10, 16] (fun _ s16 wr => ∃ i : Nat, i ≤ l.length ∧ s16 = .int .i64 i ∧ Below w.heap.size w wr ∧ wr.heap[w.heap.size]? = some (.cells e0.ar 96 (0, 0)) ∧ wr.heap[w.heap.size + 1]? = some (.cells (fI i).ar 96 (0, 0))) (fun _ s16 _ => l.length - (RowKit.intOf s16).toNat)
 case atStart =>
  refine ⟨0, by omega, rfl, qab (qac _ _) (qac _ _), heap_alloc2_old _ _ _, ?_⟩
  rw [HZ.out]; exact heap_alloc2_new _ _ _
 case round =>
  obtain ⟨i, hi, rfl, hb, h6, h8⟩ := hrel
  have HB := Hid.mk hb
  have H6 := Hid.mk h6
  have H8 := Hid.mk h8
  by_cases hlt : i < l.length
  ·have hlt2 : (i : Int) < l.length := by omega
   have HLT := Hid.mk hlt
   have hib : (i : Int) < 1000 := by omega
   obtain ⟨g, o, rfl, hg, hc⟩ := HR.out i hlt
   have d0 := cell_later hb (hc 0 _ rfl)
   have d1 := cell_later hb (hc 1 _ rfl)
   have d2 := cell_later hb (hc 2 _ rfl)
   have d3 := cell_later hb (hc 3 _ rfl)
   rw [Nat.add_zero] at d0
   have hok := HOK.out (gE l i) (gE_mem l i hlt)
   have hcall := HM.out (gE l i) hok.1 hok.2
   have HNi := Hid.mk (HNO.out i)
   have HLi := Hid.mk (HLO.out i)
   have HYi := Hid.mk (HYES.out i)
   clear hc hb hi hlt h6 h8 hg hok
   cases hpy : mB (gE l i) i0 x
   ·have HN2 := Hid.mk (HNi.out hpy)
    rw [hpy] at hcall
    clear hpy HNi HYi HLi
    generalize (gE l i) = y at *
    obtain ⟨b0, b1, b2, b3⟩ := y
    simp only [En.v] at *
    go_wp2_with fail
    refine (hcall _).mono ?_
    rintro e w' ⟨rfl, hb'⟩
    clear hcall d0 d1 d2 d3
    have hB2 := Hid.mk (qab (qac _ _) hb')
    clear hb'
    go_wp2
    go_roundw
    case rel =>
     refine ⟨i + 1, by have := HLT.out; omega, by go_num, qab HB.out hB2.out, qaa hB2.out H6.out, ?_⟩
     rw [HN2.out]; exact qaa hB2.out H8.out
    case measure => have := HLT.out; simp [RowKit.intOf]; omega
   ·rw [hpy] at hcall
    by_cases h0 : (fI i).lv ≤ (gE l i).lv
    ·have HY2 := Hid.mk (HYi.out hpy h0)
     clear hpy HNi HYi HLi
     generalize hz : fI i = z at *
     clear hz
     generalize (gE l i) = y at *
     obtain ⟨b0, b1, b2, b3⟩ := y
     obtain ⟨z0, z1, z2, z3⟩ := z
     simp only [En.v, En.ar] at *
     go_wp2_with fail
     refine (hcall _).mono ?_
     rintro e w' ⟨rfl, hb'⟩
     clear hcall d0 d1 d2 d3
     have hB2 := Hid.mk (qab (qac wr (.cells #[.int .i64 b0, .int .u64 b1, .int .i64 b2, .int .u64 b3] 96)) hb')
     have hK7 := qaa hb' (heap_alloc_new wr (.cells #[.int .i64 b0, .int .u64 b1, .int .i64 b2, .int .u64 b3] 96))
     obtain ⟨q0, q1, q2, q3⟩ := qca hK7
     have hK8 := qaa hB2.out H8.out
     obtain ⟨y0, y1, y2, y3⟩ := qca hK8
     clear hb' hK7 hK8
     go_wp2_with (first
      | (refine qad rfl 96 _ _ rfl rfl (w.heap.size + 1) 0 _ #[.int .i64 b0, .int .u64 b1, .int .i64 b2, .int .u64 b3] rfl rfl rfl 96 _ (qaa hB2.out H8.out) (show 0 + 4 ≤ 4 by decide) info_en (by simp [Value.oneCell']) #[.int .i64 b0, .int .u64 b1, .int .i64 b2, .int .u64 b3] rfl ?_
         intro w8 hk8 ht8
         clear q0 q1 q2 q3 y0 y1 y2 y3)
      | fail)
     go_roundw
     case rel =>
      refine ⟨i + 1, by have := HLT.out; omega, by go_num, qaf (qab HB.out hB2.out) ht8 (by omega), qae ht8 (qaa hB2.out H6.out) (by omega), ?_⟩
      rw [HY2.out]; exact hk8
     case measure => have := HLT.out; simp [RowKit.intOf]; omega
    ·have HY2 := Hid.mk (HLi.out (by omega))
     clear hpy HNi HYi HLi
     generalize hz : fI i = z at *
     have HZI := Hid.mk hz
     clear hz
     generalize (gE l i) = y at *
     obtain ⟨b0, b1, b2, b3⟩ := y
     obtain ⟨z0, z1, z2, z3⟩ := z
     simp only [En.v, En.ar] at *
     go_wp2_with fail
     refine (hcall _).mono ?_
     rintro e w' ⟨rfl, hb'⟩
     clear hcall d0 d1 d2 d3
     have hB2 := Hid.mk (qab (qac wr (.cells #[.int .i64 b0, .int .u64 b1, .int .i64 b2, .int .u64 b3] 96)) hb')
     have hK7 := qaa hb' (heap_alloc_new wr (.cells #[.int .i64 b0, .int .u64 b1, .int .i64 b2, .int .u64 b3] 96))
     obtain ⟨q0, q1, q2, q3⟩ := qca hK7
     have hK8 := qaa hB2.out H8.out
     obtain ⟨y0, y1, y2, y3⟩ := qca hK8
     clear hb' hK7 hK8
     go_wp2
     go_roundw
     case rel =>
      refine ⟨i + 1, by have := HLT.out; omega, by go_num, qab HB.out hB2.out, qaa hB2.out H6.out, ?_⟩
      rw [HY2.out]; exact qaa hB2.out H8.out
     case measure => have := HLT.out; simp [RowKit.intOf]; omega
  ·have hlt2 : ¬ (i : Int) < l.length := by omega
   obtain rfl : i = l.length := by omega
   have HF6 := Hid.mk h6
   rw [← HRE.out] at h8
   obtain ⟨b0, b1, b2, b3⟩ := FE
   simp only [En.v, En.ar] at *
   obtain ⟨q0, q1, q2, q3⟩ := qca h8
   have f0 := frozen_of_row wr w.heap.size 0 _ _ h6
   have f1 := frozen_of_row wr w.heap.size 1 _ _ h6
   have f2 := frozen_of_row wr w.heap.size 2 _ _ h6
   have f3 := frozen_of_row wr w.heap.size 3 _ _ h6
   obtain ⟨p0, p1, p2, p3⟩ := qca h6
   clear h6 h8 hb hi hlt
   go_wp2
   go_region
   all_goals go_wp2
   all_goals
    refine bodyPost_ret (v := .tuple #[.agg #[.int .i64 b0, .int .u64 b1, .int .i64 b2, .int .u64 b3], .bool (decide (1 ≤ b2))]) ?_ rfl ⟨rfl, ((((HB.out.setCell (p := ⟨w.heap.size, 0, none⟩) (Nat.le_refl _) _).setCell (p := ⟨w.heap.size, 1, none⟩) (Nat.le_refl _) _).setCell (p := ⟨w.heap.size, 2, none⟩) (Nat.le_refl _) _).setCell (p := ⟨w.heap.size, 3, none⟩) (Nat.le_refl _) _).drew⟩
    exact qax (p := 6) (u := 7) rfl _ _ w.heap.size 96 _ (0, 0) _ rfl (row4' _ _ _ _ HF6.out) Tryz.underlying96 rfl (by kernel_rfl)
end Go.Proofs.YtfdbdeckohaneaaGreatDoor.TR
