/- The document's lists of entries: the walks of portreeveref07's Find and Flush. -/
import Derived.Test.YthebhgllnjgjhaaDoorTlbV
import Derived.Test.YthebhgllnjgjhaaDoorTlbJ
import Derived.Test.YthebhgllnjgjhaaDoorTlbK
import Derived.Test.YthebhgllnjgjhaaDoorTlbR
namespace Go.Proofs.YthebhgllnjgjhaaDoor
open Go.RowKit

theorem info_er : (Tryd.prog.info? 51).map (·.size) = some 10 := by kernel_rfl

set_option maxHeartbeats 8000000 in
set_option maxRecDepth 100000 in
theorem rfind_c {w : World} (l : List En) (ad : Option Addr) (cap : Nat) (hr : RdA w ad l) (hlv : ∀ e ∈ l, isLv e.lv = true) (hn : l.length ≤ 1000) (i0 : Int) (x : Nat) (hx : x < 18446744073709551616) :
    Calls Tryd.prog 25 #[.slice ad l.length cap, .int .i64 i0, .int .u64 x] w fun r w' => r = .returned (.tuple #[(fndE (fun e => mB e i0 x) l).v, .int .i64 ((cntE (fun e => mB e i0 x) l : Nat) : Int)]) ∧ Below w.heap.size w w' := by
  have hM := fun i (hi : i < l.length) w1 => rmatches_any (gE l i) (hlv _ (by rw [gE_pos l i hi]; exact List.getElem_mem hi)) i0 x hx w1
  have HRE : Hid (fndE (fun e => mB e i0 x) l = fstI (fun e => mB e i0 x) l l.length ∧ cntE (fun e => mB e i0 x) l = cntI (fun e => mB e i0 x) l l.length) := ⟨(fst_all _ _).symm, (cnt_all _ _).symm⟩
  have HZ : Hid (fstI (fun e => mB e i0 x) l 0 = e0 ∧ cntI (fun e => mB e i0 x) l 0 = 0) := ⟨rfl, rfl⟩
  have HNO : Hid (∀ i, i < l.length → mB (gE l i) i0 x = false → fstI (fun e => mB e i0 x) l (i + 1) = fstI (fun e => mB e i0 x) l i ∧ cntI (fun e => mB e i0 x) l (i + 1) = cntI (fun e => mB e i0 x) l i) := fun i h1 h2 => fst_no h1 h2
  have HYES : Hid (∀ i, i < l.length → mB (gE l i) i0 x = true → fstI (fun e => mB e i0 x) l (i + 1) = (if cntI (fun e => mB e i0 x) l i = 0 then (gE l i) else fstI (fun e => mB e i0 x) l i) ∧ cntI (fun e => mB e i0 x) l (i + 1) = cntI (fun e => mB e i0 x) l i + 1) := fun i h1 h2 => fst_yes h1 h2
  have HCL : Hid (∀ i, i ≤ l.length → cntI (fun e => mB e i0 x) l i ≤ i) := fun i h1 => cnt_le _ _ _ h1
  have HM := Hid.mk hM
  have HR := Hid.mk hr
  have hlI : (l.length : Int) ≤ 1000 := by omega
  clear hr hM hn hx hlv
  generalize fndE (fun e => mB e i0 x) l = FE at *
  generalize cntE (fun e => mB e i0 x) l = CE at *
  generalize fstI (fun e => mB e i0 x) l = fI at *
  generalize cntI (fun e => mB e i0 x) l = cI at *
  go_enter Tryd.func25, Tryd.ntmps25
  go_wp2
  go_loopw [9, 10] (fun s9 s17 wr => ∃ i : Nat, i ≤ l.length ∧ s17 = .int .i64 (i : Nat) ∧ s9 = .int .i64 ((cI i : Nat) : Int) ∧ Below w.heap.size w wr ∧ wr.heap[w.heap.size]? = some (.cells e0.ar 51 (0, 0)) ∧ wr.heap[w.heap.size + 1]? = some (.cells (fI i).ar 51 (0, 0))) (fun _ s17 _ => l.length - (RowKit.intOf s17).toNat)
  case atStart =>
    refine ⟨0, by omega, rfl, by rw [HZ.out.2]; rfl, below_tr (below_new _ _) (below_new _ _), heap_alloc2_old _ _ _, ?_⟩
    rw [HZ.out.1]; exact heap_alloc2_new _ _ _
  case round =>
    obtain ⟨i, hi, rfl, rfl, hb, h6, h8⟩ := hrel
    have HB := Hid.mk hb
    have H6 := Hid.mk h6
    have H8 := Hid.mk h8
    have hcl := HCL.out i hi
    by_cases hlt : i < l.length
    · have hlt2 : (i : Int) < l.length := by omega
      have HLT := Hid.mk hlt
      have hib : (i : Int) < 1000 := by omega
      have hcb : ((cI i : Nat) : Int) < 1000 := by omega
      obtain ⟨g, o, rfl, hg, hc⟩ := HR.out i hlt
      have d0 := cell_later hb (hc 0 _ rfl)
      have d1 := cell_later hb (hc 1 _ rfl)
      have d2 := cell_later hb (hc 2 _ rfl)
      have d3 := cell_later hb (hc 3 _ rfl)
      have d4 := cell_later hb (hc 4 _ rfl)
      have d5 := cell_later hb (hc 5 _ rfl)
      have d6 := cell_later hb (hc 6 _ rfl)
      have d7 := cell_later hb (hc 7 _ rfl)
      have d8 := cell_later hb (hc 8 _ rfl)
      have d9 := cell_later hb (hc 9 _ rfl)
      rw [Nat.add_zero] at d0
      have hcall := HM.out i hlt
      have HCC := Hid.mk hc
      have HNi := Hid.mk (HNO.out i hlt)
      have HYi := Hid.mk (HYES.out i hlt)
      clear hc hb hi hlt h6 h8 hcl hg
      cases hpy : mB (gE l i) i0 x
      · have HN2 := Hid.mk (HNi.out hpy)
        rw [hpy] at hcall
        clear hpy HNi HYi
        generalize (gE l i) = y at *
        obtain ⟨b0, b1, b2, b3, b4, b5, b6, b7, b8, b9⟩ := y
        simp only [En.v] at *
        go_wp2_with fail
        refine (hcall _).mono ?_
        rintro e w' ⟨rfl, hb'⟩
        clear hcall d0 d1 d2 d3 d4 d5 d6 d7 d8 d9
        have hB2 := Hid.mk hb'
        clear hb'
        go_wp2
        go_roundw
        case rel =>
          refine ⟨i + 1, by have := HLT.out; omega, by go_num, by rw [HN2.out.2], below_tr HB.out hB2.out, block_later hB2.out H6.out, ?_⟩
          rw [HN2.out.1]; exact block_later hB2.out H8.out
        case measure => have := HLT.out; simp [RowKit.intOf]; omega
      · have HY2 := Hid.mk (HYi.out hpy)
        rw [hpy] at hcall
        clear hpy HNi HYi
        by_cases h0 : cI i = 0
        · rw [if_pos h0] at HY2
          have hz : ((cI i : Nat) : Int) = 0 := by omega
          have HZ0 := Hid.mk h0
          clear h0
          generalize (gE l i) = y at *
          obtain ⟨b0, b1, b2, b3, b4, b5, b6, b7, b8, b9⟩ := y
          simp only [En.v] at *
          go_wp2_with fail
          refine (hcall _).mono ?_
          rintro e w' ⟨rfl, hb'⟩
          clear hcall d0 d1 d2 d3 d4 d5 d6 d7 d8 d9
          have hB2 := Hid.mk hb'
          have hbb := below_tr HB.out hb'
          have d0 := cell_later hbb (HCC.out 0 _ rfl)
          have d1 := cell_later hbb (HCC.out 1 _ rfl)
          have d2 := cell_later hbb (HCC.out 2 _ rfl)
          have d3 := cell_later hbb (HCC.out 3 _ rfl)
          have d4 := cell_later hbb (HCC.out 4 _ rfl)
          have d5 := cell_later hbb (HCC.out 5 _ rfl)
          have d6 := cell_later hbb (HCC.out 6 _ rfl)
          have d7 := cell_later hbb (HCC.out 7 _ rfl)
          have d8 := cell_later hbb (HCC.out 8 _ rfl)
          have d9 := cell_later hbb (HCC.out 9 _ rfl)
          rw [Nat.add_zero] at d0
          clear hb' hbb
          go_wp2_with (first
            | (refine wpList_store_segTo rfl 51 _ _ rfl rfl (w.heap.size + 1) 0 _ #[.int .i64 b0, .int .u64 b1, .int .i64 b2, .int .i64 b3, .int .u64 b4, .bool b5, .bool b6, .bool b7, .bool b8, .int .i64 b9] rfl rfl rfl 51 _ (block_later hB2.out H8.out) (show 0 + 10 ≤ 10 by decide) info_er (by simp [Value.oneCell']) #[.int .i64 b0, .int .u64 b1, .int .i64 b2, .int .i64 b3, .int .u64 b4, .bool b5, .bool b6, .bool b7, .bool b8, .int .i64 b9] rfl ?_
               intro w8 hk8 ht8
               clear d0 d1 d2 d3 d4 d5 d6 d7 d8 d9)
            | fail)
          go_roundw
          case rel =>
            refine ⟨i + 1, by have := HLT.out; omega, by go_num, ?_, below_turn (below_tr HB.out hB2.out) ht8 (by omega), block_turn ht8 (block_later hB2.out H6.out) (by omega), ?_⟩
            · rw [HY2.out.2, HZ0.out]; go_num
            · rw [HY2.out.1]; exact hk8
          case measure => have := HLT.out; simp [RowKit.intOf]; omega
        · rw [if_neg h0] at HY2
          have hz : ¬ ((cI i : Nat) : Int) = 0 := by omega
          clear h0
          generalize (gE l i) = y at *
          obtain ⟨b0, b1, b2, b3, b4, b5, b6, b7, b8, b9⟩ := y
          simp only [En.v] at *
          go_wp2_with fail
          refine (hcall _).mono ?_
          rintro e w' ⟨rfl, hb'⟩
          clear hcall d0 d1 d2 d3 d4 d5 d6 d7 d8 d9
          have hB2 := Hid.mk hb'
          clear hb'
          go_wp2
          go_roundw
          case rel =>
            refine ⟨i + 1, by have := HLT.out; omega, by go_num, by rw [HY2.out.2]; go_num, below_tr HB.out hB2.out, block_later hB2.out H6.out, ?_⟩
            rw [HY2.out.1]; exact block_later hB2.out H8.out
          case measure => have := HLT.out; simp [RowKit.intOf]; omega
    · have hlt2 : ¬ (i : Int) < l.length := by omega
      obtain rfl : i = l.length := by omega
      have HF6 := Hid.mk h6
      have hc8 := cells10 h8
      rw [← HRE.out.1] at hc8
      rw [← HRE.out.2] at hcl ⊢
      obtain ⟨q0, q1, q2, q3, q4, q5, q6, q7, q8, q9⟩ := hc8
      obtain ⟨b0, b1, b2, b3, b4, b5, b6, b7, b8, b9⟩ := FE
      simp only [En.v] at *
      clear h6 h8 hb hi hlt
      go_wp2_with (first
        | (refine wpList_store_segTo rfl 51 _ _ rfl rfl w.heap.size 0 _ #[.int .i64 b0, .int .u64 b1, .int .i64 b2, .int .i64 b3, .int .u64 b4, .bool b5, .bool b6, .bool b7, .bool b8, .int .i64 b9] rfl rfl rfl 51 _ HF6.out (show 0 + 10 ≤ 10 by decide) info_er (by simp [Value.oneCell']) #[.int .i64 b0, .int .u64 b1, .int .i64 b2, .int .i64 b3, .int .u64 b4, .bool b5, .bool b6, .bool b7, .bool b8, .int .i64 b9] rfl ?_
           intro w8 hk8 ht8)
        | fail)
      refine bodyPost_ret (v := .tuple #[.agg #[.int .i64 b0, .int .u64 b1, .int .i64 b2, .int .i64 b3, .int .u64 b4, .bool b5, .bool b6, .bool b7, .bool b8, .int .i64 b9], .int .i64 (CE : Nat)]) ?_ rfl ⟨rfl, below_turn HB.out ht8 (Nat.le_refl _)⟩
      exact res_row_tmp (p := 6) (u := 7) rfl _ _ w.heap.size 51 _ _ _ rfl hk8 Tryd.underlying51 rfl (by kernel_rfl)


set_option maxHeartbeats 16000000 in
set_option maxRecDepth 100000 in
theorem rflush_va {w : World} (l : List En) (ad : Option Addr) (cap : Nat) (hr : RdA w ad l) (hlv : ∀ e ∈ l, isLv e.lv = true) (hn : l.length ≤ 900) (i0 : Int) (x : Nat) (hx : x < 18446744073709551616) :
    Calls Tryd.prog 27 #[.slice ad l.length cap, .int .i64 i0, .bool true, .int .u64 x] w fun r w' => ∃ ad' cap', r = .returned (.slice ad' (keepP (fun e => mB e i0 x) l).length cap') ∧ RLst w' ad' cap' (keepP (fun e => mB e i0 x) l) ∧ (∀ b, ad' = some b → w.heap.size ≤ b.block) ∧ Below w.heap.size w w' := by
  have HR := Hid.mk hr
  have HM : Hid (∀ i, i < l.length → ∀ w1, Calls Tryd.prog 41 #[(gE l i).v, .int .i64 i0, .int .u64 x] w1 fun r w' => r = .returned (.bool (mB (gE l i) i0 x)) ∧ Below w1.heap.size w1 w') := fun i hi w1 => rmatches_any (gE l i) (hlv _ (by rw [gE_pos l i hi]; exact List.getElem_mem hi)) i0 x hx w1
  have HKY : Hid (∀ i, i < l.length → mB (gE l i) i0 x = true → keepP (fun e => mB e i0 x) (l.take (i + 1)) = keepP (fun e => mB e i0 x) (l.take i)) := fun i hi h => by
    unfold keepP
    rw [take_succ_g l i hi, List.filter_append, filt0 (p := (fun e => mB e i0 x)) h, List.append_nil]
  have HKN : Hid (∀ i, i < l.length → mB (gE l i) i0 x = false → keepP (fun e => mB e i0 x) (l.take (i + 1)) = keepP (fun e => mB e i0 x) (l.take i) ++ [(gE l i)]) := fun i hi h => by
    unfold keepP
    rw [take_succ_g l i hi, List.filter_append, filt1 (p := (fun e => mB e i0 x)) h]
  have HKL : Hid (∀ i, i ≤ l.length → (keepP (fun e => mB e i0 x) (l.take i)).length ≤ 900) := fun i hi => by
    have := keep_le (fun e => mB e i0 x) (l.take i)
    rw [List.length_take] at this
    omega
  have HKA : Hid (keepP (fun e => mB e i0 x) (l.take l.length) = keepP (fun e => mB e i0 x) l ∧ keepP (fun e => mB e i0 x) (l.take 0) = []) := ⟨by rw [List.take_length], rfl⟩
  have hnI : (l.length : Int) ≤ 900 := by omega
  obtain ⟨KP, hKP⟩ : ∃ KP : Nat → List En, KP = fun i => keepP (fun e => mB e i0 x) (l.take i) := ⟨_, rfl⟩
  have eK : ∀ i, keepP (fun e => mB e i0 x) (l.take i) = KP i := fun i => by rw [hKP]
  simp only [eK] at HKY HKN HKL HKA
  generalize keepP (fun e => mB e i0 x) l = KL at *
  clear hKP eK hr hn
  clear hlv hx
  go_enter Tryd.func27, Tryd.ntmps27
  go_wp2
  go_loopw [9, 10, 11] (fun s9 s10 _ wr => ∃ (i : Nat) (v : Value), i ≤ l.length ∧ s10 = .int .i64 (i : Nat) ∧ v = s9 ∧ Below w.heap.size w wr ∧ wr.ownsRow w.heap.size 51 10 v (KP i).length (ecs (KP i))) (fun _ s10 _ _ => l.length - (RowKit.intOf s10).toNat)
  case atStart =>
    refine ⟨0, _, by omega, rfl, rfl, Below.refl _ _, ?_⟩
    rw [HKA.out.2]
    exact World.ownsRow_nil _ _ _ _
  case round =>
    obtain ⟨i, v, hi, rfl, rfl, hb, hown⟩ := hrel
    have HB := Hid.mk hb
    have HO := Hid.mk hown
    have HKLi := Hid.mk (HKL.out i hi)
    clear hown
    by_cases hlt : i < l.length
    · have hlt2 : (i : Int) < l.length := by omega
      have HLT := Hid.mk hlt
      have hib : (i : Int) < 1000 := by omega
      obtain ⟨g, o, rfl, hg, hc⟩ := HR.out i hlt
      have HC := Hid.mk hc
      have d0 := cell_later hb (hc 0 _ rfl)
      have d1 := cell_later hb (hc 1 _ rfl)
      have d2 := cell_later hb (hc 2 _ rfl)
      have d3 := cell_later hb (hc 3 _ rfl)
      have d4 := cell_later hb (hc 4 _ rfl)
      have d5 := cell_later hb (hc 5 _ rfl)
      have d6 := cell_later hb (hc 6 _ rfl)
      have d7 := cell_later hb (hc 7 _ rfl)
      have d8 := cell_later hb (hc 8 _ rfl)
      have d9 := cell_later hb (hc 9 _ rfl)
      rw [Nat.add_zero] at d0
      have HYi := Hid.mk (HKY.out i hlt)
      have HNi := Hid.mk (HKN.out i hlt)
      have hcall := HM.out i hlt
      by_cases hz : i0 < 0
      · have dz : decide (i0 < 0) = true := decide_eq_true hz
        cases hpy : mB (gE l i) i0 x
        · rw [hpy] at hcall
          have HN2 := Hid.mk (HNi.out hpy)
          clear hpy HYi HNi hc hb hi hlt hg
          generalize (gE l i) = y at *
          obtain ⟨b0, b1, b2, b3, b4, b5, b6, b7, b8, b9⟩ := y
          simp only [En.v, En.cs] at *
          go_wp2_with fail
          refine (hcall _).mono ?_
          rintro e w' ⟨rfl, hb'⟩
          have HBq := Hid.mk hb'
          clear hcall d0 d1 d2 d3 d4 d5 d6 d7 d8 d9 hb'
          have hb := below_tr HB.out HBq.out
          have hc := HC.out
          have d0 := cell_later hb (hc 0 _ rfl)
          have d1 := cell_later hb (hc 1 _ rfl)
          have d2 := cell_later hb (hc 2 _ rfl)
          have d3 := cell_later hb (hc 3 _ rfl)
          have d4 := cell_later hb (hc 4 _ rfl)
          have d5 := cell_later hb (hc 5 _ rfl)
          have d6 := cell_later hb (hc 6 _ rfl)
          have d7 := cell_later hb (hc 7 _ rfl)
          have d8 := cell_later hb (hc 8 _ rfl)
          have d9 := cell_later hb (hc 9 _ rfl)
          rw [Nat.add_zero] at d0
          have HOq := Hid.mk (own_later HO.out HBq.out)
          have HBB := Hid.mk hb
          clear hb hc
          go_wp2_with (first
            | (at_builtin
               refine wpList_appE etyR _ rfl _ _ rfl w.heap.size v (KP i) rfl ((World.ownsRow.alloc HOq.out _)) [⟨b0, b1, b2, b3, b4, b5, b6, b7, b8, b9⟩] ⟨w'.heap.size, 0, none⟩ 1 rfl (fun j u hu => World.news_of_block (cs := #[.int .i64 b0, .int .u64 b1, .int .i64 b2, .int .i64 b3, .int .u64 b4, .bool b5, .bool b6, .bool b7, .bool b8, .int .i64 b9]) (t := 51) (fr := (0, 0)) (heap_alloc_new w' _) j u hu) Nat.zero_lt_one (by have := HKLi.out; show (KP i).length + 1 ≤ 100000; omega) (by have := HBB.out.size; simp; omega) _ rfl ?_
               intro g2 cap2 w4 hown4 hgrow hat hlt4
               have HO4 := Hid.mk hown4
               have HG4 := Hid.mk hgrow
               clear hown4 hgrow hat hlt4)
            | fail)
          go_roundw
          case rel =>
            refine ⟨i + 1, _, by have := HLT.out; omega, by go_num, rfl, below_app HBB.out (below_new w' _) HOq.out (Nat.le_refl _) HG4.out, ?_⟩
            rw [HN2.out]
            exact HO4.out
          case measure => have := HLT.out; simp [RowKit.intOf]; omega
        · rw [hpy] at hcall
          have HY2 := Hid.mk (HYi.out hpy)
          clear hpy HYi HNi hc hb hi hlt hg
          generalize (gE l i) = y at *
          obtain ⟨b0, b1, b2, b3, b4, b5, b6, b7, b8, b9⟩ := y
          simp only [En.v, En.cs] at *
          go_wp2_with fail
          refine (hcall _).mono ?_
          rintro e w' ⟨rfl, hb'⟩
          have HBq := Hid.mk hb'
          clear hcall d0 d1 d2 d3 d4 d5 d6 d7 d8 d9 hb'
          go_wp2
          go_roundw
          case rel =>
            refine ⟨i + 1, _, by have := HLT.out; omega, by go_num, rfl, below_tr HB.out HBq.out, ?_⟩
            rw [HY2.out]
            exact own_later HO.out HBq.out
          case measure => have := HLT.out; simp [RowKit.intOf]; omega
      · have dz : decide (i0 < 0) = false := decide_eq_false hz
        cases hpy : mB (gE l i) i0 x
        · rw [hpy] at hcall
          have HN2 := Hid.mk (HNi.out hpy)
          clear hpy HYi HNi hc hb hi hlt hg
          generalize (gE l i) = y at *
          obtain ⟨b0, b1, b2, b3, b4, b5, b6, b7, b8, b9⟩ := y
          simp only [En.v, En.cs] at *
          go_wp2_with fail
          refine (hcall _).mono ?_
          rintro e w' ⟨rfl, hb'⟩
          have HBq := Hid.mk hb'
          clear hcall d0 d1 d2 d3 d4 d5 d6 d7 d8 d9 hb'
          have hb := below_tr HB.out HBq.out
          have hc := HC.out
          have d0 := cell_later hb (hc 0 _ rfl)
          have d1 := cell_later hb (hc 1 _ rfl)
          have d2 := cell_later hb (hc 2 _ rfl)
          have d3 := cell_later hb (hc 3 _ rfl)
          have d4 := cell_later hb (hc 4 _ rfl)
          have d5 := cell_later hb (hc 5 _ rfl)
          have d6 := cell_later hb (hc 6 _ rfl)
          have d7 := cell_later hb (hc 7 _ rfl)
          have d8 := cell_later hb (hc 8 _ rfl)
          have d9 := cell_later hb (hc 9 _ rfl)
          rw [Nat.add_zero] at d0
          have HOq := Hid.mk (own_later HO.out HBq.out)
          have HBB := Hid.mk hb
          clear hb hc
          go_wp2_with (first
            | (at_builtin
               refine wpList_appE etyR _ rfl _ _ rfl w.heap.size v (KP i) rfl ((World.ownsRow.alloc HOq.out _)) [⟨b0, b1, b2, b3, b4, b5, b6, b7, b8, b9⟩] ⟨w'.heap.size, 0, none⟩ 1 rfl (fun j u hu => World.news_of_block (cs := #[.int .i64 b0, .int .u64 b1, .int .i64 b2, .int .i64 b3, .int .u64 b4, .bool b5, .bool b6, .bool b7, .bool b8, .int .i64 b9]) (t := 51) (fr := (0, 0)) (heap_alloc_new w' _) j u hu) Nat.zero_lt_one (by have := HKLi.out; show (KP i).length + 1 ≤ 100000; omega) (by have := HBB.out.size; simp; omega) _ rfl ?_
               intro g2 cap2 w4 hown4 hgrow hat hlt4
               have HO4 := Hid.mk hown4
               have HG4 := Hid.mk hgrow
               clear hown4 hgrow hat hlt4)
            | fail)
          go_roundw
          case rel =>
            refine ⟨i + 1, _, by have := HLT.out; omega, by go_num, rfl, below_app HBB.out (below_new w' _) HOq.out (Nat.le_refl _) HG4.out, ?_⟩
            rw [HN2.out]
            exact HO4.out
          case measure => have := HLT.out; simp [RowKit.intOf]; omega
        · rw [hpy] at hcall
          have HY2 := Hid.mk (HYi.out hpy)
          clear hpy HYi HNi hc hb hi hlt hg
          generalize (gE l i) = y at *
          obtain ⟨b0, b1, b2, b3, b4, b5, b6, b7, b8, b9⟩ := y
          simp only [En.v, En.cs] at *
          go_wp2_with fail
          refine (hcall _).mono ?_
          rintro e w' ⟨rfl, hb'⟩
          have HBq := Hid.mk hb'
          clear hcall d0 d1 d2 d3 d4 d5 d6 d7 d8 d9 hb'
          go_wp2
          go_roundw
          case rel =>
            refine ⟨i + 1, _, by have := HLT.out; omega, by go_num, rfl, below_tr HB.out HBq.out, ?_⟩
            rw [HY2.out]
            exact own_later HO.out HBq.out
          case measure => have := HLT.out; simp [RowKit.intOf]; omega
    · have hlt2 : ¬ (i : Int) < l.length := by omega
      obtain rfl : i = l.length := by omega
      have HO2 := HO.out
      rw [HKA.out.1] at HO2
      obtain ⟨ad', cap', rfl, h1, h2⟩ := own_rl HO2
      have H1 := Hid.mk h1
      have H2 := Hid.mk h2
      clear hlt hi hb h1 h2 HO HO2
      go_wp2
      go_ret
      exact ⟨_, _, rfl, H1.out, fun b hb => (H2.out b hb).1, HB.out⟩

set_option maxHeartbeats 16000000 in
set_option maxRecDepth 100000 in
theorem rflush_as {w : World} (l : List En) (ad : Option Addr) (cap : Nat) (hr : RdA w ad l) (hn : l.length ≤ 900) (i0 : Int) (h0 : 0 ≤ i0) :
    Calls Tryd.prog 27 #[.slice ad l.length cap, .int .i64 i0, .bool false, .int .u64 0] w fun r w' => ∃ ad' cap', r = .returned (.slice ad' (keepP (fun e => decide (e.aid = i0)) l).length cap') ∧ RLst w' ad' cap' (keepP (fun e => decide (e.aid = i0)) l) ∧ (∀ b, ad' = some b → w.heap.size ≤ b.block) ∧ Below w.heap.size w w' := by
  have HR := Hid.mk hr
  have HKY : Hid (∀ i, i < l.length → decide ((gE l i).aid = i0) = true → keepP (fun e => decide (e.aid = i0)) (l.take (i + 1)) = keepP (fun e => decide (e.aid = i0)) (l.take i)) := fun i hi h => by
    unfold keepP
    rw [take_succ_g l i hi, List.filter_append, filt0 (p := (fun e => decide (e.aid = i0))) h, List.append_nil]
  have HKN : Hid (∀ i, i < l.length → decide ((gE l i).aid = i0) = false → keepP (fun e => decide (e.aid = i0)) (l.take (i + 1)) = keepP (fun e => decide (e.aid = i0)) (l.take i) ++ [(gE l i)]) := fun i hi h => by
    unfold keepP
    rw [take_succ_g l i hi, List.filter_append, filt1 (p := (fun e => decide (e.aid = i0))) h]
  have HKL : Hid (∀ i, i ≤ l.length → (keepP (fun e => decide (e.aid = i0)) (l.take i)).length ≤ 900) := fun i hi => by
    have := keep_le (fun e => decide (e.aid = i0)) (l.take i)
    rw [List.length_take] at this
    omega
  have HKA : Hid (keepP (fun e => decide (e.aid = i0)) (l.take l.length) = keepP (fun e => decide (e.aid = i0)) l ∧ keepP (fun e => decide (e.aid = i0)) (l.take 0) = []) := ⟨by rw [List.take_length], rfl⟩
  have hnI : (l.length : Int) ≤ 900 := by omega
  obtain ⟨KP, hKP⟩ : ∃ KP : Nat → List En, KP = fun i => keepP (fun e => decide (e.aid = i0)) (l.take i) := ⟨_, rfl⟩
  have eK : ∀ i, keepP (fun e => decide (e.aid = i0)) (l.take i) = KP i := fun i => by rw [hKP]
  simp only [eK] at HKY HKN HKL HKA
  generalize keepP (fun e => decide (e.aid = i0)) l = KL at *
  clear hKP eK hr hn
  have dz : decide (i0 < 0) = false := decide_eq_false (by omega)
  go_enter Tryd.func27, Tryd.ntmps27
  go_wp2
  go_loopw [9, 10, 11] (fun s9 s10 _ wr => ∃ (i : Nat) (v : Value), i ≤ l.length ∧ s10 = .int .i64 (i : Nat) ∧ v = s9 ∧ Below w.heap.size w wr ∧ wr.ownsRow w.heap.size 51 10 v (KP i).length (ecs (KP i))) (fun _ s10 _ _ => l.length - (RowKit.intOf s10).toNat)
  case atStart =>
    refine ⟨0, _, by omega, rfl, rfl, Below.refl _ _, ?_⟩
    rw [HKA.out.2]
    exact World.ownsRow_nil _ _ _ _
  case round =>
    obtain ⟨i, v, hi, rfl, rfl, hb, hown⟩ := hrel
    have HB := Hid.mk hb
    have HO := Hid.mk hown
    have HKLi := Hid.mk (HKL.out i hi)
    clear hown
    by_cases hlt : i < l.length
    · have hlt2 : (i : Int) < l.length := by omega
      have HLT := Hid.mk hlt
      have hib : (i : Int) < 1000 := by omega
      obtain ⟨g, o, rfl, hg, hc⟩ := HR.out i hlt
      have HC := Hid.mk hc
      have d0 := cell_later hb (hc 0 _ rfl)
      have d1 := cell_later hb (hc 1 _ rfl)
      have d2 := cell_later hb (hc 2 _ rfl)
      have d3 := cell_later hb (hc 3 _ rfl)
      have d4 := cell_later hb (hc 4 _ rfl)
      have d5 := cell_later hb (hc 5 _ rfl)
      have d6 := cell_later hb (hc 6 _ rfl)
      have d7 := cell_later hb (hc 7 _ rfl)
      have d8 := cell_later hb (hc 8 _ rfl)
      have d9 := cell_later hb (hc 9 _ rfl)
      rw [Nat.add_zero] at d0
      have HYi := Hid.mk (HKY.out i hlt)
      have HNi := Hid.mk (HKN.out i hlt)
      by_cases hpy : (gE l i).aid = i0
      · have HY2 := Hid.mk (HYi.out (decide_eq_true hpy))
        clear HYi HNi hc hb hi hlt hg
        generalize (gE l i) = y at *
        obtain ⟨b0, b1, b2, b3, b4, b5, b6, b7, b8, b9⟩ := y
        simp only at *
        have dq : (b0 == i0) = true := by rw [beq_iff_eq]; exact hpy
        clear hpy
        go_wp2
        go_roundw
        case rel =>
          refine ⟨i + 1, _, by have := HLT.out; omega, by go_num, rfl, HB.out, ?_⟩
          rw [HY2.out]
          exact HO.out
        case measure => have := HLT.out; simp [RowKit.intOf]; omega
      · have HN2 := Hid.mk (HNi.out (decide_eq_false hpy))
        have HOq := Hid.mk HO.out
        clear HYi HNi hc hb hi hlt hg
        generalize (gE l i) = y at *
        obtain ⟨b0, b1, b2, b3, b4, b5, b6, b7, b8, b9⟩ := y
        simp only at *
        have dq : (b0 == i0) = false := by rw [beq_eq_false_iff_ne]; exact hpy
        clear hpy
        go_wp2_with (first
          | (at_builtin
             refine wpList_appE etyR _ rfl _ _ rfl w.heap.size v (KP i) rfl ((World.ownsRow.alloc HOq.out _)) [⟨b0, b1, b2, b3, b4, b5, b6, b7, b8, b9⟩] ⟨wr.heap.size, 0, none⟩ 1 rfl (fun j u hu => World.news_of_block (cs := #[.int .i64 b0, .int .u64 b1, .int .i64 b2, .int .i64 b3, .int .u64 b4, .bool b5, .bool b6, .bool b7, .bool b8, .int .i64 b9]) (t := 51) (fr := (0, 0)) (heap_alloc_new wr _) j u hu) Nat.zero_lt_one (by have := HKLi.out; show (KP i).length + 1 ≤ 100000; omega) (by have := HB.out.size; simp; omega) _ rfl ?_
             intro g2 cap2 w4 hown4 hgrow hat hlt4
             have HO4 := Hid.mk hown4
             have HG4 := Hid.mk hgrow
             clear hown4 hgrow hat hlt4)
          | fail)
        go_roundw
        case rel =>
          refine ⟨i + 1, _, by have := HLT.out; omega, by go_num, rfl, below_app HB.out (below_new wr _) HOq.out (Nat.le_refl _) HG4.out, ?_⟩
          rw [HN2.out]
          exact HO4.out
        case measure => have := HLT.out; simp [RowKit.intOf]; omega
    · have hlt2 : ¬ (i : Int) < l.length := by omega
      obtain rfl : i = l.length := by omega
      have HO2 := HO.out
      rw [HKA.out.1] at HO2
      obtain ⟨ad', cap', rfl, h1, h2⟩ := own_rl HO2
      have H1 := Hid.mk h1
      have H2 := Hid.mk h2
      clear hlt hi hb h1 h2 HO HO2
      go_wp2
      go_ret
      exact ⟨_, _, rfl, H1.out, fun b hb => (H2.out b hb).1, HB.out⟩

end Go.Proofs.YthebhgllnjgjhaaDoor
