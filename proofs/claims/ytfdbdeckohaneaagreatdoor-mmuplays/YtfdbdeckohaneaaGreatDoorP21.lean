/- P21 -/
import Derived.Test.YtfdbdeckohaneaaGreatDoorP19
set_option maxHeartbeats 16000000
set_option maxRecDepth 100000
namespace Go.Proofs.YtfdbdeckohaneaaGreatDoor.TB
open Go.RowKit
abbrev En.ar (e : En) : Array Value := #[.int .i64 e.aid, .int .u64 (e.va : Int), .int .i64 e.lv, .int .i64 e.k, .int .u64 (e.o : Int), .bool e.u, .bool e.r, .bool e.x, .bool e.s, .int .i64 e.a]
def fstI (p : En → Bool) (l : List En) (i : Nat) : En := ((l.take i).filter p).headD e0
def cntI (p : En → Bool) (l : List En) (i : Nat) : Nat := ((l.take i).filter p).length
theorem hits_no {p : En → Bool} {l : List En} {i : Nat} (hi : i < l.length) (h : p (gE l i) = false) : (l.take (i + 1)).filter p = (l.take i).filter p := by
 rw [qat l i hi, List.filter_append]
 have : [(gE l i)].filter p = [] := by generalize (gE l i) = y at *; simp [h]
 rw [this, List.append_nil]
theorem hits_yes {p : En → Bool} {l : List En} {i : Nat} (hi : i < l.length) (h : p (gE l i) = true) : (l.take (i + 1)).filter p = (l.take i).filter p ++ [(gE l i)] := by
 rw [qat l i hi, List.filter_append]
 have : [(gE l i)].filter p = [(gE l i)] := by generalize (gE l i) = y at *; simp [h]
 rw [this]
theorem fst_no {p : En → Bool} {l : List En} {i : Nat} (hi : i < l.length) (h : p (gE l i) = false) : fstI p l (i + 1) = fstI p l i ∧ cntI p l (i + 1) = cntI p l i := by
 unfold fstI cntI
 rw [hits_no hi h]; exact ⟨rfl, rfl⟩
theorem fst_yes {p : En → Bool} {l : List En} {i : Nat} (hi : i < l.length) (h : p (gE l i) = true) : fstI p l (i + 1) = (if cntI p l i = 0 then (gE l i) else fstI p l i) ∧ cntI p l (i + 1) = cntI p l i + 1 := by
 unfold fstI cntI
 rw [hits_yes hi h]
 refine ⟨?_, by simp⟩
 cases hq : (l.take i).filter p with
 | nil => rfl
 | cons a m => simp
theorem cnt_le (p : En → Bool) (l : List En) (i : Nat) (hi : i ≤ l.length) : cntI p l i ≤ i := by
 unfold cntI
 have := List.length_filter_le p (l.take i)
 rw [List.length_take] at this
 omega
theorem cnt_all (p : En → Bool) (l : List En) : cntI p l l.length = (l.filter p).length := by unfold cntI; rw [List.take_length]
theorem fst_all (p : En → Bool) (l : List En) : fstI p l l.length = (l.filter p).headD e0 := by unfold fstI; rw [List.take_length]
def fndE (p : En → Bool) (l : List En) : En := (l.filter p).headD e0
def cntE (p : En → Bool) (l : List En) : Nat := (l.filter p).length
theorem find_c {w : World} {X : Nat → Prop} {t : Nat} {most : Int} {l : List En} (h : Buf w X t most l) (hn : l.length ≤ 1000) (i0 : Int) (x : Nat) (hx : x < 18446744073709551616) :
  Calls Tryz.prog 60 #[.pointer (some ⟨t, 0, none⟩), .int .i64 i0, .int .u64 x] w fun r w' => r = .returned (.tuple #[(fndE (fun e => mB e i0 x) l).v, .int .i64 ((cntE (fun e => mB e i0 x) l : Nat) : Int)]) ∧ Below w.heap.size w w' := by
 obtain ⟨v, h⟩ := h
 obtain ⟨ad, cap, rfl, hf, hr⟩ := h.form
 have hM := fun e w1 => qcm e i0 x hx w1
 have HRE : Hid (fndE (fun e => mB e i0 x) l = fstI (fun e => mB e i0 x) l l.length ∧ cntE (fun e => mB e i0 x) l = cntI (fun e => mB e i0 x) l l.length) := ⟨(fst_all _ _).symm, (cnt_all _ _).symm⟩
 have HZ : Hid (fstI (fun e => mB e i0 x) l 0 = e0 ∧ cntI (fun e => mB e i0 x) l 0 = 0) := ⟨rfl, rfl⟩
 have HNO : Hid (∀ i, i < l.length → mB (gE l i) i0 x = false → fstI (fun e => mB e i0 x) l (i + 1) = fstI (fun e => mB e i0 x) l i ∧ cntI (fun e => mB e i0 x) l (i + 1) = cntI (fun e => mB e i0 x) l i) := fun i h1 h2 => fst_no h1 h2
 have HYES : Hid (∀ i, i < l.length → mB (gE l i) i0 x = true → fstI (fun e => mB e i0 x) l (i + 1) = (if cntI (fun e => mB e i0 x) l i = 0 then (gE l i) else fstI (fun e => mB e i0 x) l i) ∧ cntI (fun e => mB e i0 x) l (i + 1) = cntI (fun e => mB e i0 x) l i + 1) := fun i h1 h2 => fst_yes h1 h2
 have HCL : Hid (∀ i, i ≤ l.length → cntI (fun e => mB e i0 x) l i ≤ i) := fun i h1 => cnt_le _ _ _ h1
 have HM := Hid.mk hM
 have HR := Hid.mk hr
 have hlI : (l.length : Int) ≤ 1000 := by omega
 obtain ⟨-, c1⟩ := qaz h.row
 have c1a := fun o1 o2 => cell_later (qac (w.alloc o1) o2) (cell_later (qac w o1) c1)
 clear h hf hr hM hn hx c1
 generalize fndE (fun e => mB e i0 x) l = FE at *
 generalize cntE (fun e => mB e i0 x) l = CE at *
 generalize fstI (fun e => mB e i0 x) l = fI at *
 generalize cntI (fun e => mB e i0 x) l = cI at *
 go_enter Tryz.func60, Tryz.ntmps60
 go_wp2
 clear c1a
 go_loopw [9, 11, 17] (fun s9 _ s17 wr => ∃ i : Nat, i ≤ l.length ∧ s17 = .int .i64 i ∧ s9 = .int .i64 ((cI i : Nat) : Int) ∧ Below w.heap.size w wr ∧ wr.heap[w.heap.size]? = some (.cells e0.ar 91 (0, 0)) ∧ wr.heap[w.heap.size + 1]? = some (.cells (fI i).ar 91 (0, 0))) (fun _ _ s17 _ => l.length - (RowKit.intOf s17).toNat)
 case atStart =>
  refine ⟨0, by omega, rfl, by rw [HZ.out.2]; rfl, qab (qac _ _) (qac _ _), heap_alloc2_old _ _ _, ?_⟩
  rw [HZ.out.1]; exact heap_alloc2_new _ _ _
 case round =>
  obtain ⟨i, hi, rfl, rfl, hb, h6, h8⟩ := hrel
  have HB := Hid.mk hb
  have H6 := Hid.mk h6
  have H8 := Hid.mk h8
  have hcl := HCL.out i hi
  by_cases hlt : i < l.length
  ·have hlt2 : (i : Int) < l.length := by omega
   have HLT := Hid.mk hlt
   have hib : (i : Int) < 1000 := by omega
   have hcb : ((cI i : Nat) : Int) < 1000 := by omega
   obtain ⟨g, o, rfl, hg, hc⟩ := HR.out i hlt
   have d0 := cell_later hb (hc 0 _ rfl)
   have d1 := cell_later hb (hc 1 _ rfl)
   have d2 := cell_later hb (hc 2 _ rfl)
   have d3 := cell_later hb (hc 3 _ rfl)
   have d4 := cell_later hb (hc 4 _ rfl)
   have d5 := cell_later hb (hc 5 _ rfl)
   have d6 := cell_later hb (hc 6 _ rfl)
   have d7 := cell_later hb (hc 7 _ rfl)
   have d8 := cell_later hb (hc 8 _ rfl)
   have d9 := cell_later hb (hc 9 _ rfl)
   rw [Nat.add_zero] at d0
   have hcall := HM.out (gE l i)
   have HNi := Hid.mk (HNO.out i hlt)
   have HYi := Hid.mk (HYES.out i hlt)
   clear hc hb hi hlt h6 h8 hcl hg
   cases hpy : mB (gE l i) i0 x
   ·have HN2 := Hid.mk (HNi.out hpy)
    rw [hpy] at hcall
    clear hpy HNi HYi
    generalize (gE l i) = y at *
    obtain ⟨b0, b1, b2, b3, b4, b5, b6, b7, b8, b9⟩ := y
    simp only [En.v] at *
    go_wp2_with fail
    refine (hcall _).mono ?_
    rintro e w' ⟨rfl, hb'⟩
    clear hcall d0 d1 d2 d3 d4 d5 d6 d7 d8 d9
    have hB2 := Hid.mk (qab (qac _ _) hb')
    clear hb'
    go_wp2
    go_roundw
    case rel =>
     refine ⟨i + 1, by have := HLT.out; omega, by go_num, by rw [HN2.out.2], qab HB.out hB2.out, qaa hB2.out H6.out, ?_⟩
     rw [HN2.out.1]; exact qaa hB2.out H8.out
    case measure => have := HLT.out; simp [RowKit.intOf]; omega
   ·have HY2 := Hid.mk (HYi.out hpy)
    rw [hpy] at hcall
    clear hpy HNi HYi
    by_cases h0 : cI i = 0
    ·rw [if_pos h0] at HY2
     have hz : ((cI i : Nat) : Int) = 0 := by omega
     have HZ0 := Hid.mk h0
     clear h0
     generalize (gE l i) = y at *
     obtain ⟨b0, b1, b2, b3, b4, b5, b6, b7, b8, b9⟩ := y
     simp only [En.v] at *
     go_wp2_with fail
     refine (hcall _).mono ?_
     rintro e w' ⟨rfl, hb'⟩
     clear hcall d0 d1 d2 d3 d4 d5 d6 d7 d8 d9
     have hB2 := Hid.mk (qab (qac wr (.cells #[.int .i64 b0, .int .u64 b1, .int .i64 b2, .int .i64 b3, .int .u64 b4, .bool b5, .bool b6, .bool b7, .bool b8, .int .i64 b9] 91)) hb')
     have hK7 := qaa hb' (heap_alloc_new wr (.cells #[.int .i64 b0, .int .u64 b1, .int .i64 b2, .int .i64 b3, .int .u64 b4, .bool b5, .bool b6, .bool b7, .bool b8, .int .i64 b9] 91))
     obtain ⟨q0, q1, q2, q3, q4, q5, q6, q7, q8, q9⟩ := qck hK7
     clear hb' hK7
     go_wp2_with (first
      | (refine qad rfl 91 _ _ rfl rfl (w.heap.size + 1) 0 _ #[.int .i64 b0, .int .u64 b1, .int .i64 b2, .int .i64 b3, .int .u64 b4, .bool b5, .bool b6, .bool b7, .bool b8, .int .i64 b9] rfl rfl rfl 91 _ (qaa hB2.out H8.out) (show 0 + 10 ≤ 10 by decide) info_en (by simp [Value.oneCell']) #[.int .i64 b0, .int .u64 b1, .int .i64 b2, .int .i64 b3, .int .u64 b4, .bool b5, .bool b6, .bool b7, .bool b8, .int .i64 b9] rfl ?_
         intro w8 hk8 ht8
         clear q0 q1 q2 q3 q4 q5 q6 q7 q8 q9)
      | fail)
     go_roundw
     case rel =>
      refine ⟨i + 1, by have := HLT.out; omega, by go_num, ?_, qaf (qab HB.out hB2.out) ht8 (by omega), qae ht8 (qaa hB2.out H6.out) (by omega), ?_⟩
      ·rw [HY2.out.2, HZ0.out]; go_num
      ·rw [HY2.out.1]; exact hk8
     case measure => have := HLT.out; simp [RowKit.intOf]; omega
    ·rw [if_neg h0] at HY2
     have hz : ¬ ((cI i : Nat) : Int) = 0 := by omega
     clear h0
     generalize (gE l i) = y at *
     obtain ⟨b0, b1, b2, b3, b4, b5, b6, b7, b8, b9⟩ := y
     simp only [En.v] at *
     go_wp2_with fail
     refine (hcall _).mono ?_
     rintro e w' ⟨rfl, hb'⟩
     clear hcall d0 d1 d2 d3 d4 d5 d6 d7 d8 d9
     have hB2 := Hid.mk (qab (qac _ _) hb')
     clear hb'
     go_wp2
     go_roundw
     case rel =>
      refine ⟨i + 1, by have := HLT.out; omega, by go_num, by rw [HY2.out.2]; go_num, qab HB.out hB2.out, qaa hB2.out H6.out, ?_⟩
      rw [HY2.out.1]; exact qaa hB2.out H8.out
     case measure => have := HLT.out; simp [RowKit.intOf]; omega
  ·have hlt2 : ¬ (i : Int) < l.length := by omega
   obtain rfl : i = l.length := by omega
   have HF6 := Hid.mk h6
   have hc8 := qck h8
   rw [← HRE.out.1] at hc8
   rw [← HRE.out.2] at hcl ⊢
   obtain ⟨q0, q1, q2, q3, q4, q5, q6, q7, q8, q9⟩ := hc8
   obtain ⟨b0, b1, b2, b3, b4, b5, b6, b7, b8, b9⟩ := FE
   simp only [En.v] at *
   clear h6 h8 hb hi hlt
   go_wp2_with (first
    | (refine qad rfl 91 _ _ rfl rfl w.heap.size 0 _ #[.int .i64 b0, .int .u64 b1, .int .i64 b2, .int .i64 b3, .int .u64 b4, .bool b5, .bool b6, .bool b7, .bool b8, .int .i64 b9] rfl rfl rfl 91 _ HF6.out (show 0 + 10 ≤ 10 by decide) info_en (by simp [Value.oneCell']) #[.int .i64 b0, .int .u64 b1, .int .i64 b2, .int .i64 b3, .int .u64 b4, .bool b5, .bool b6, .bool b7, .bool b8, .int .i64 b9] rfl ?_
       intro w8 hk8 ht8)
    | fail)
   refine bodyPost_ret (v := .tuple #[.agg #[.int .i64 b0, .int .u64 b1, .int .i64 b2, .int .i64 b3, .int .u64 b4, .bool b5, .bool b6, .bool b7, .bool b8, .int .i64 b9], .int .i64 CE]) ?_ rfl ⟨rfl, qaf HB.out ht8 (Nat.le_refl _)⟩
   exact qax (p := 6) (u := 7) rfl _ _ w.heap.size 91 _ _ _ rfl hk8 Tryz.underlying91 rfl (by kernel_rfl)
end Go.Proofs.YtfdbdeckohaneaaGreatDoor.TB
