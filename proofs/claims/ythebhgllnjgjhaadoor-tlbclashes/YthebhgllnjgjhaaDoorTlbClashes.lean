/- TlbClashes (P7.4): for every list of fills and ASID the law returns true: of any entries two clash just if some address finds two; the first two are told; and how many entries have the ASID. No condition beyond the row's own. -/
import Derived.Test.YthebhgllnjgjhaaDoorTlbCl2
import Derived.Test.YthebhgllnjgjhaaDoorTlbFrame
namespace Go.Proofs.YthebhgllnjgjhaaDoor.tlbClashes
open Go.ChangeShapes Go.WideShapes Go.ChangeAt Go.RowKit Go.Lib

set_option maxHeartbeats 8000000 in
set_option maxRecDepth 100000 in
theorem walk_long (ad : Option Addr) (cap n : Nat) (i : Int) (w : World) (hn2 : 40 < n) (hF : Flds w) :
    Calls Tryd.prog 6 #[.slice ad n cap, .int .i64 i] w fun r w' => r = .returned (.bool true) ∧ Below w.heap.size w w' := by
  have hnI : (40 : Int) < (n : Int) := by omega
  clear hn2
  go_enter Tryd.func6, Tryd.ntmps6
  go_wp2_with fail
  refine (tanchor_any _ hF).mono ?_
  rintro e w1 ⟨rfl, hb1⟩
  go_wp2
  go_ret
  exact ⟨rfl, hb1⟩

set_option maxHeartbeats 4000000 in
set_option maxRecDepth 1000000 in
theorem walk_short (ad : Option Addr) (cap : Nat) (l : List En) (i0 : Int) (w : World) (hn : l.length ≤ 40) (hr : RdA w ad l) (hok : ∀ e ∈ l, e.ok) (hF : Flds w) :
    Calls Tryd.prog 6 #[.slice ad l.length cap, .int .i64 i0] w fun r w' => r = .returned (.bool true) ∧ Below w.heap.size w w' := by
  have HF := Hid.mk hF
  have HR := Hid.mk hr
  have hnI : (l.length : Int) ≤ 40 := by omega
  have HOK : Hid (∀ i, i < l.length → (gE l i).ok) := fun i hi => hok _ (by rw [gE_pos l i hi]; exact List.getElem_mem hi)
  have HFS : Hid (∀ i, i < l.length → fillsI l (i + 1) = fillL (fillsI l i) 64 (gE l i)) := fun i hi => fills_succ hi
  have HFN : Hid (∀ i, i ≤ l.length → (fillsI l i).length ≤ 40) := fun i hi => Nat.le_trans (fills_len l i hi) (by omega)
  clear hr hok hn
  go_enter Tryd.func6, Tryd.ntmps6
  go_wp2_with fail
  refine (tanchor_any _ hF).mono ?_
  rintro e w1 ⟨rfl, hb1⟩
  clear hF
  have HB1 := Hid.mk hb1
  clear hb1
  go_wp2_with fail
  refine (new_ok 64 (by omega) (by omega) _).mono ?_
  rintro e w2 ⟨rfl, hb2, hB2⟩
  have HL2 : Hid (LBuf w w2 w1.heap.size 64 (fillsI l 0)) := ⟨_, hB2, fun j hj => by rw [hj]; exact HB1.out.size, below_tr HB1.out hb2⟩
  clear hb2 hB2 HB1
  generalize w1.heap.size = t at *
  go_wp2
  go_loopw [8, 39] (fun _ s40 wr => ∃ j : Nat, j ≤ l.length ∧ s40 = .int .i64 (j : Nat) ∧ LBuf w wr t 64 (fillsI l j)) (fun _ s40 _ => l.length - (RowKit.intOf s40).toNat)
  case atStart => exact ⟨0, by omega, rfl, HL2.out⟩
  case round =>
    obtain ⟨j, hj, rfl, hL⟩ := hrel
    have HL := Hid.mk hL
    clear hL HL2
    by_cases hlt : j < l.length
    · have hlt2 : (j : Int) < l.length := by omega
      have HLT := Hid.mk hlt
      have hjb : (j : Int) < 1000 := by omega
      obtain ⟨g, o, rfl, hg, hc⟩ := HR.out j hlt
      have hb := HL.out.bel
      have d0 := cell_later hb (hc 0 _ rfl)
      have d1 := cell_later hb (hc 1 _ rfl)
      have d2 := cell_later hb (hc 2 _ rfl)
      have d3 := cell_later hb (hc 3 _ rfl)
      have d4 := cell_later hb (hc 4 _ rfl)
      have d5 := cell_later hb (hc 5 _ rfl)
      have d6 := cell_later hb (hc 6 _ rfl)
      have d7 := cell_later hb (hc 7 _ rfl)
      have d8 := cell_later hb (hc 8 _ rfl)
      have d9 := cell_later hb (hc 9 _ rfl)
      rw [Nat.add_zero] at d0
      have hcall := fun W (hW : LBuf w W t 64 (fillsI l j)) => fill_l (gE l j) (HOK.out j hlt) hW (by have := HFN.out j hj; omega) HF.out
      have HFj := Hid.mk (HFS.out j hlt)
      rw [← HFj.out] at hcall
      have HCA := Hid.mk hcall
      clear hc hb hj hlt hg hcall HFj
      generalize fillN (gE l j) = FN at *
      generalize (gE l j) = y at *
      obtain ⟨b0, b1, b2, b3, b4, b5, b6, b7, b8, b9⟩ := y
      simp only [En.v] at *
      go_wp2_with fail
      refine (HCA.out _ (HL.out.later (below_new _ _))).mono ?_
      rintro e w' ⟨rfl, hL'⟩
      clear HCA d0 d1 d2 d3 d4 d5 d6 d7 d8 d9
      go_wp2
      go_roundw
      case rel => exact ⟨j + 1, by have := HLT.out; omega, by go_num, hL'⟩
      case measure => have := HLT.out; simp [RowKit.intOf]; omega
    · have hlt2 : ¬ (j : Int) < l.length := by omega
      obtain rfl : j = l.length := by omega
      have hF40 := HFN.out l.length (Nat.le_refl _)
      have hFr := fills_right l l.length (Nat.le_refl _)
      clear hlt hj HR HOK HFS HFN
      generalize hFe : fillsI l l.length = F at *
      clear hFe
      obtain ⟨X, hB3, hXlo, hBel⟩ := HL.out
      have HB3 := Hid.mk hB3
      have HBEL := Hid.mk hBel
      have hF40I : (F.length : Int) ≤ 40 := by omega
      have HRT : Hid (∀ j, j < F.length → rightE (gE F j) = true) := fun j hj => hFr _ (by rw [gE_pos F j hj]; exact List.getElem_mem hj)
      have HOK : Hid (∀ j, j < F.length → (gE F j).ok) := fun j hj => by
        obtain ⟨v, h⟩ := hB3
        exact h.ok _ (by rw [gE_pos F j hj]; exact List.getElem_mem hj)
      clear hB3 hXlo hBel HL hFr
      go_wp2_with fail
      refine (clash_c HB3.out (by omega)).mono ?_
      rintro e w4 ⟨ea, eb, ec, rfl, hcl, hb4⟩
      have HCL := Hid.mk hcl
      have HE0 : Hid (ec = false → ea = e0 ∧ eb = e0) := fun h => by
        rcases hcl with ⟨-, h1, h2, -⟩ | ⟨h1, -⟩
        · exact ⟨h1, h2⟩
        · rw [h] at h1; cases h1
      have HEA : Hid (∀ i j, i < j → j < F.length → mtB (gE F i) (gE F j) = true → NoC F i → NoR F i j → ea = (gE F i) ∧ eb = (gE F j)) := fun i j h1 h2 h3 h4 h5 => hcl.first h1 h2 h3 h4 h5
      clear hcl
      obtain ⟨m0, m1, m2, m3, m4, m5, m6, m7, m8, m9⟩ := ea
      obtain ⟨n0, n1, n2, n3, n4, n5, n6, n7, n8, n9⟩ := eb
      simp only [En.v] at *
      have HB5 := Hid.mk (below_tr hb4 (below_tr (below_new w4 (.cells #[.int .i64 m0, .int .u64 m1, .int .i64 m2, .int .i64 m3, .int .u64 m4, .bool m5, .bool m6, .bool m7, .bool m8, .int .i64 m9] 33)) (below_new _ (.cells #[.int .i64 n0, .int .u64 n1, .int .i64 n2, .int .i64 n3, .int .u64 n4, .bool n5, .bool n6, .bool n7, .bool n8, .int .i64 n9] 33))))
      have K9 := Hid.mk (heap_alloc2_old w4 (.cells #[.int .i64 m0, .int .u64 m1, .int .i64 m2, .int .i64 m3, .int .u64 m4, .bool m5, .bool m6, .bool m7, .bool m8, .int .i64 m9] 33) (.cells #[.int .i64 n0, .int .u64 n1, .int .i64 n2, .int .i64 n3, .int .u64 n4, .bool n5, .bool n6, .bool n7, .bool n8, .int .i64 n9] 33))
      have K10 := Hid.mk (heap_alloc2_new w4 (.cells #[.int .i64 m0, .int .u64 m1, .int .i64 m2, .int .i64 m3, .int .u64 m4, .bool m5, .bool m6, .bool m7, .bool m8, .int .i64 m9] 33) (.cells #[.int .i64 n0, .int .u64 n1, .int .i64 n2, .int .i64 n3, .int .u64 n4, .bool n5, .bool n6, .bool n7, .bool n8, .int .i64 n9] 33))
      clear hb4
      go_upto_region 14 with fail
      generalize (w4.alloc (.cells #[.int .i64 m0, .int .u64 m1, .int .i64 m2, .int .i64 m3, .int .u64 m4, .bool m5, .bool m6, .bool m7, .bool m8, .int .i64 m9] 33)).alloc (.cells #[.int .i64 n0, .int .u64 n1, .int .i64 n2, .int .i64 n3, .int .u64 n4, .bool n5, .bool n6, .bool n7, .bool n8, .int .i64 n9] 33) = w5 at *
      generalize w4.heap.size = B9 at *
      go_wp2_with fail
      refine (list2_c (HB3.out.later HB5.out) (by omega)).mono ?_
      rintro e w7 ⟨adl, capl, rfl, hrl, hcp, hb7⟩
      have HRL := Hid.mk hrl
      have HCP := Hid.mk hcp
      have HB7 := Hid.mk (HB3.out.later (below_tr HB5.out hb7))
      have HBEL7 := Hid.mk (below_tr HBEL.out (below_tr HB5.out hb7))
      have K9b := Hid.mk (block_later hb7 K9.out)
      have K10b := Hid.mk (block_later hb7 K10.out)
      clear hrl hcp hb7 HB3 HB5 HBEL K9 K10
      have HCY : Hid (∀ i, i < F.length → (gE F i).aid = i0 → cntI (fun e => decide (e.aid = i0)) F (i + 1) = cntI (fun e => decide (e.aid = i0)) F i + 1) := fun i h1 h2 => (fst_yes h1 (decide_eq_true h2)).2
      have HCN : Hid (∀ i, i < F.length → (gE F i).aid ≠ i0 → cntI (fun e => decide (e.aid = i0)) F (i + 1) = cntI (fun e => decide (e.aid = i0)) F i) := fun i h1 h2 => (fst_no h1 (decide_eq_false h2)).2
      have HCL2 : Hid (∀ i, i ≤ F.length → cntI (fun e => decide (e.aid = i0)) F i ≤ i) := fun i h1 => cnt_le _ _ _ h1
      have HCA : Hid (cntI (fun e => decide (e.aid = i0)) F F.length = cntE (fun e => decide (e.aid = i0)) F ∧ cntI (fun e => decide (e.aid = i0)) F 0 = 0) := ⟨cnt_all _ _, rfl⟩
      have HCT := Hid.mk (fun W (hW : Buf W X t 64 F) => count_c hW (by omega) i0)
      generalize cntE (fun e => decide (e.aid = i0)) F = CE at *
      generalize cntI (fun e => decide (e.aid = i0)) F = cI at *
      go_wp2
      go_loopw [13, 14, 15, 16, 57] (fun s13 s14 _ _ s57 wq => ∃ (i : Nat) (f : Bool), i ≤ F.length ∧ s57 = .int .i64 (i : Nat) ∧ s13 = .int .i64 ((cI i : Nat) : Int) ∧ s14 = .bool f ∧ Fd F f i (i + 1) ∧ Below w7.heap.size w7 wq) (fun _ _ _ _ s57 _ => F.length - (RowKit.intOf s57).toNat)
      case atStart => exact ⟨0, false, by omega, rfl, by rw [HCA.out.2]; rfl, rfl, Fd.zero F, Below.refl _ _⟩
      case round =>
        obtain ⟨i, f, hi, rfl, rfl, rfl, hfd, hb⟩ := hrel
        have HB := Hid.mk hb
        have HFD := Hid.mk hfd
        have hcl := HCL2.out i hi
        clear hfd
        by_cases hlt : i < F.length
        · skip
          have hlt2 : (i : Int) < F.length := by omega
          have HLT := Hid.mk hlt
          have hib : (i : Int) < 1000 := by omega
          have hcb : ((cI i : Nat) : Int) < 1000 := by omega
          obtain ⟨g, o, rfl, hg, hc⟩ := HRL.out i hlt
          have d0 := cell_later hb (hc 0 _ rfl)
          have d1 := cell_later hb (hc 1 _ rfl)
          have d2 := cell_later hb (hc 2 _ rfl)
          have d3 := cell_later hb (hc 3 _ rfl)
          have d4 := cell_later hb (hc 4 _ rfl)
          have d5 := cell_later hb (hc 5 _ rfl)
          have d6 := cell_later hb (hc 6 _ rfl)
          have d7 := cell_later hb (hc 7 _ rfl)
          have d8 := cell_later hb (hc 8 _ rfl)
          have d9 := cell_later hb (hc 9 _ rfl)
          rw [Nat.add_zero] at d0
          obtain ⟨gA, oA, hA, hAr⟩ := drop_addr g o capl i F HCP.out
          have HAR := Hid.mk hAr
          have nil1 : i + 1 ≤ F.length := by omega
          have h0i : (0 : Int) ≤ (i : Int) + 1 := by omega
          have hnl : (i : Int) + 1 ≤ (F.length : Int) := by omega
          have HLD : Hid (F.length - (i + 1) = (F.drop (i + 1)).length) := (List.length_drop ..).symm
          obtain ⟨x, hx⟩ : ∃ x : En, x = (gE F i) := ⟨_, rfl⟩
          rw [← hx] at d0 d1 d2 d3 d4 d5 d6 d7 d8 d9
          have HX := Hid.mk hx
          clear hc hb hi hlt hg hAr hx hcl
          obtain ⟨a0, a1, a2, a3, a4, a5, a6, a7, a8, a9⟩ := x
          simp only at *
          by_cases hpy : a0 = i0
          · skip
            have dq : (a0 == i0) = true := by rw [beq_iff_eq]; exact hpy
            have HC2 : Hid (cI (i + 1) = cI i + 1) := HCY.out i HLT.out (by rw [← HX.out]; exact hpy)
            clear hpy
            go_wp2
            clear d0 d1 d2 d3 d4 d5 d6 d7 d8 d9 hA
            have HNX := Hid.mk (below_tr HB.out (below_new wr (.cells #[.int .i64 a0, .int .u64 a1, .int .i64 a2, .int .i64 a3, .int .u64 a4, .bool a5, .bool a6, .bool a7, .bool a8, .int .i64 a9] 33)))
            have K16x := Hid.mk (heap_alloc_new wr (.cells #[.int .i64 a0, .int .u64 a1, .int .i64 a2, .int .i64 a3, .int .u64 a4, .bool a5, .bool a6, .bool a7, .bool a8, .int .i64 a9] 33))
            generalize wr.alloc (.cells #[.int .i64 a0, .int .u64 a1, .int .i64 a2, .int .i64 a3, .int .u64 a4, .bool a5, .bool a6, .bool a7, .bool a8, .int .i64 a9] 33) = wx at *
            generalize wr.heap.size = B16 at *
            go_loopw [14, 18, 19, 20, 21, 73] (fun s14 _ _ _ _ s73 wq => ∃ (k : Nat) (f2 : Bool), k ≤ (F.drop (i + 1)).length ∧ s73 = .int .i64 (k : Nat) ∧ s14 = .bool f2 ∧ Fd F f2 i (i + 1 + k) ∧ Below w7.heap.size w7 wq ∧ wq.heap[B16]? = some (.cells #[.int .i64 a0, .int .u64 a1, .int .i64 a2, .int .i64 a3, .int .u64 a4, .bool a5, .bool a6, .bool a7, .bool a8, .int .i64 a9] 33 (0, 0))) (fun _ _ _ _ _ s73 _ => (F.drop (i + 1)).length - (RowKit.intOf s73).toNat)
            case atStart => exact ⟨0, f, by omega, rfl, rfl, HFD.out, HNX.out, K16x.out⟩
            case round =>
              obtain ⟨k, f2, hk, rfl, rfl, hfd2, hb, h16⟩ := hrel
              have HBq := Hid.mk hb
              have H16q := Hid.mk h16
              have HFD2 := Hid.mk hfd2
              clear hfd2
              by_cases hkt : k < (F.drop (i + 1)).length
              · have hkt2 : (k : Int) < ((F.length - (i + 1) : Nat) : Int) := by have := HLD.out; omega
                have HKT := Hid.mk hkt
                have hkb : (k : Int) < 1000 := by have := HLD.out; omega
                have HIJ : Hid (i < i + 1 + k ∧ i + 1 + k < F.length) := ⟨by omega, by have := HLD.out; omega⟩
                obtain ⟨g2, o2, e2, hg2, hc⟩ := HAR.out w7 HRL.out k hkt
                cases e2
                rw [drop_get F i k hkt] at hc
                have d0 := cell_later hb (hc 0 _ rfl)
                have d1 := cell_later hb (hc 1 _ rfl)
                have d2 := cell_later hb (hc 2 _ rfl)
                have d3 := cell_later hb (hc 3 _ rfl)
                have d4 := cell_later hb (hc 4 _ rfl)
                have d5 := cell_later hb (hc 5 _ rfl)
                have d6 := cell_later hb (hc 6 _ rfl)
                have d7 := cell_later hb (hc 7 _ rfl)
                have d8 := cell_later hb (hc 8 _ rfl)
                have d9 := cell_later hb (hc 9 _ rfl)
                rw [Nat.add_zero] at d0
                obtain ⟨y, hy⟩ : ∃ y : En, y = (gE F (i + 1 + k)) := ⟨_, rfl⟩
                rw [← hy] at d0 d1 d2 d3 d4 d5 d6 d7 d8 d9
                have HY := Hid.mk hy
                have hrx := HRT.out i HLT.out
                have hry := HRT.out (i + 1 + k) HIJ.out.2
                have hox := HOK.out i HLT.out
                have hoy := HOK.out (i + 1 + k) HIJ.out.2
                rw [← HX.out] at hrx hox
                rw [← hy] at hry hoy
                clear hc hb hk hkt hg2 hy
                obtain ⟨b0, b1, b2, b3, b4, b5, b6, b7, b8, b9⟩ := y
                have hMT := deep_meet hrx hry
                obtain ⟨q0, q1, q2, q3, q4, q5, q6, q7, q8, q9⟩ := cells10 h16
                replace q0 := fun ob => cell_later (below_new wr ob) q0
                replace q1 := fun ob => cell_later (below_new wr ob) q1
                replace q2 := fun ob => cell_later (below_new wr ob) q2
                replace q3 := fun ob => cell_later (below_new wr ob) q3
                replace q4 := fun ob => cell_later (below_new wr ob) q4
                replace q5 := fun ob => cell_later (below_new wr ob) q5
                replace q6 := fun ob => cell_later (below_new wr ob) q6
                replace q7 := fun ob => cell_later (below_new wr ob) q7
                replace q8 := fun ob => cell_later (below_new wr ob) q8
                replace q9 := fun ob => cell_later (below_new wr ob) q9
                have K16 := Hid.mk (block_later (below_tr (below_new wr (.cells #[.int .i64 b0, .int .u64 b1, .int .i64 b2, .int .i64 b3, .int .u64 b4, .bool b5, .bool b6, .bool b7, .bool b8, .int .i64 b9] 33)) (below_new _ (.cells #[.int .i64 a0, .int .u64 a1, .int .i64 a2, .int .i64 a3, .int .u64 a4, .bool a5, .bool a6, .bool a7, .bool a8, .int .i64 a9] 33))) H16q.out)
                have K18 := Hid.mk (heap_alloc2_old wr (.cells #[.int .i64 b0, .int .u64 b1, .int .i64 b2, .int .i64 b3, .int .u64 b4, .bool b5, .bool b6, .bool b7, .bool b8, .int .i64 b9] 33) (.cells #[.int .i64 a0, .int .u64 a1, .int .i64 a2, .int .i64 a3, .int .u64 a4, .bool a5, .bool a6, .bool a7, .bool a8, .int .i64 a9] 33))
                have K19 := Hid.mk (heap_alloc2_new wr (.cells #[.int .i64 b0, .int .u64 b1, .int .i64 b2, .int .i64 b3, .int .u64 b4, .bool b5, .bool b6, .bool b7, .bool b8, .int .i64 b9] 33) (.cells #[.int .i64 a0, .int .u64 a1, .int .i64 a2, .int .i64 a3, .int .u64 a4, .bool a5, .bool a6, .bool a7, .bool a8, .int .i64 a9] 33))
                have HW := Hid.mk (below_tr HBq.out (below_tr (below_new wr (.cells #[.int .i64 b0, .int .u64 b1, .int .i64 b2, .int .i64 b3, .int .u64 b4, .bool b5, .bool b6, .bool b7, .bool b8, .int .i64 b9] 33)) (below_new _ (.cells #[.int .i64 a0, .int .u64 a1, .int .i64 a2, .int .i64 a3, .int .u64 a4, .bool a5, .bool a6, .bool a7, .bool a8, .int .i64 a9] 33))))
                have c16 := fun o1 o2 => cell_later (below_new (wr.alloc o1) o2) (q2 o1)
                clear h16
                simp only at *
                by_cases hlv : a2 < b2
                · skip
                  have hself : mB ⟨b0, b1, b2, b3, b4, b5, b6, b7, b8, b9⟩ b0 b1 = true := right_self hry
                  have hDE : deepE ⟨a0, a1, a2, a3, a4, a5, a6, a7, a8, a9⟩ ⟨b0, b1, b2, b3, b4, b5, b6, b7, b8, b9⟩ = ⟨b0, b1, b2, b3, b4, b5, b6, b7, b8, b9⟩ := if_pos hlv
                  rw [hDE] at hMT
                  simp only at hMT
                  rw [hself, Bool.and_true] at hMT
                  have hFdD := fun W (hW : Buf W X t 64 F) => find_c hW (by omega) b0 b1 hoy.1
                  have hMx := fun W => matches_any ⟨a0, a1, a2, a3, a4, a5, a6, a7, a8, a9⟩ b0 b1 hoy.1 W
                  have hMy := fun W => matches_any ⟨b0, b1, b2, b3, b4, b5, b6, b7, b8, b9⟩ b0 b1 hoy.1 W
                  have hMT2 := hMT.trans (show mtB ⟨a0, a1, a2, a3, a4, a5, a6, a7, a8, a9⟩ ⟨b0, b1, b2, b3, b4, b5, b6, b7, b8, b9⟩ = mtB (gE F i) (gE F (i + 1 + k)) by rw [HX.out, HY.out])
                  rw [hMT2] at hMx
                  rw [hself] at hMy
                  have HZ : Hid (mtB (gE F i) (gE F (i + 1 + k)) = true → 2 ≤ cntE (fun e => mB e b0 b1) F) := fun h => by
                    rw [← HX.out, ← HY.out] at h
                    refine cnt_two (i := i) (j := i + 1 + k) HIJ.out.1 HIJ.out.2 ?_ ?_
                    · show mB (gE F i) b0 b1 = true
                      rw [← HX.out]; exact hMT.trans h
                    · show mB (gE F (i + 1 + k)) b0 b1 = true
                      rw [← HY.out]; exact hself
                  generalize fndE (fun e => mB e b0 b1) F = ZE at *
                  generalize cntE (fun e => mB e b0 b1) F = ZN at *
                  obtain ⟨z0, z1, z2, z3, z4, z5, z6, z7, z8, z9⟩ := ZE
                  have dlv : decide (a2 < b2) = true := decide_eq_true hlv
                  clear hself hDE hMT hMT2 hrx hry hox hoy
                  simp only [En.v] at *
                  cases hM : mtB (gE F i) (gE F (i + 1 + k))
                  · rw [hM] at hMx
                    have HMM := Hid.mk hM
                    clear hM
                    go_wp2_with (first
                      | (refine wpList_store_segTo rfl 33 _ _ rfl rfl (wr.heap.size + 1) 0 _ #[.int .i64 b0, .int .u64 b1, .int .i64 b2, .int .i64 b3, .int .u64 b4, .bool b5, .bool b6, .bool b7, .bool b8, .int .i64 b9] rfl rfl rfl 33 _ K19.out (show 0 + 10 ≤ 10 by decide) info_en (by simp [Value.oneCell']) #[.int .i64 b0, .int .u64 b1, .int .i64 b2, .int .i64 b3, .int .u64 b4, .bool b5, .bool b6, .bool b7, .bool b8, .int .i64 b9] rfl ?_
                         intro wy ky ty
                         have HWy := Hid.mk (below_turn HW.out ty (Nat.le_trans HBq.out.size (Nat.le_succ _)))
                         have K16y := Hid.mk (block_turn ty K16.out (by have := block_lt H16q.out; omega))
                         have K18y := Hid.mk (block_turn ty K18.out (by omega))
                         have K19y := Hid.mk ky
                         clear ty
                         obtain ⟨s0, s1, s2, s3, s4, s5, s6, s7, s8, s9⟩ := cells10 ky
                         clear ky)
                      | fail)
                    refine (hFdD _ (HB7.out.later HWy.out)).mono ?_
                    rintro e w8 ⟨rfl, hb8⟩
                    have HQ := Hid.mk (below_tr HWy.out (below_tr hb8 (below_new w8 (.cells #[.int .i64 z0, .int .u64 z1, .int .i64 z2, .int .i64 z3, .int .u64 z4, .bool z5, .bool z6, .bool z7, .bool z8, .int .i64 z9] 33))))
                    have L16 := Hid.mk (block_later (below_tr hb8 (below_new w8 (.cells #[.int .i64 z0, .int .u64 z1, .int .i64 z2, .int .i64 z3, .int .u64 z4, .bool z5, .bool z6, .bool z7, .bool z8, .int .i64 z9] 33))) K16y.out)
                    have L18 := Hid.mk (block_later (below_tr hb8 (below_new w8 (.cells #[.int .i64 z0, .int .u64 z1, .int .i64 z2, .int .i64 z3, .int .u64 z4, .bool z5, .bool z6, .bool z7, .bool z8, .int .i64 z9] 33))) K18y.out)
                    have L19 := Hid.mk (block_later (below_tr hb8 (below_new w8 (.cells #[.int .i64 z0, .int .u64 z1, .int .i64 z2, .int .i64 z3, .int .u64 z4, .bool z5, .bool z6, .bool z7, .bool z8, .int .i64 z9] 33))) K19y.out)
                    clear hb8 hFdD d0 d1 d2 d3 d4 d5 d6 d7 d8 d9 q0 q1 q2 q3 q4 q5 q6 q7 q8 q9 s0 s1 s2 s3 s4 s5 s6 s7 s8 s9 K16y K18y K19y HWy
                    clear K16 K18 K19 HW
                    go_upto_region 29 with fail
                    generalize w8.alloc (.cells #[.int .i64 z0, .int .u64 z1, .int .i64 z2, .int .i64 z3, .int .u64 z4, .bool z5, .bool z6, .bool z7, .bool z8, .int .i64 z9] 33) = w9 at *
                    obtain ⟨p0, p1, p2, p3, p4, p5, p6, p7, p8, p9⟩ := cells10 L16.out
                    obtain ⟨s0, s1, s2, s3, s4, s5, s6, s7, s8, s9⟩ := cells10 L19.out
                    go_wp2_with fail
                    refine (hMx _).mono ?_
                    rintro e w10 ⟨rfl, hb10⟩
                    clear p0 p1 p2 p3 p4 p5 p6 p7 p8 p9 s0 s1 s2 s3 s4 s5 s6 s7 s8 s9
                    go_wp2
                    go_roundw
                    case rel => exact ⟨k + 1, f2, HKT.out, by go_num, rfl, HFD2.out.no HMM.out, below_tr HQ.out hb10, block_later hb10 L16.out⟩
                    case measure => have := HKT.out; simp [RowKit.intOf]; omega
                  · rw [hM] at hMx
                    have HMM := Hid.mk hM
                    clear hM
                    cases f2
                    · have HFD3 : Hid (NoC F i ∧ NoR F i (i + 1 + k)) := by
                        rcases HFD2.out with ⟨-, h1, h2⟩ | ⟨h1, -⟩
                        · exact ⟨h1, h2⟩
                        · cases h1
                      clear HFD2
                      have HFD2 := HFD3
                      clear HFD3
                      go_wp2_with (first
                        | (refine wpList_store_segTo rfl 33 _ _ rfl rfl (wr.heap.size + 1) 0 _ #[.int .i64 b0, .int .u64 b1, .int .i64 b2, .int .i64 b3, .int .u64 b4, .bool b5, .bool b6, .bool b7, .bool b8, .int .i64 b9] rfl rfl rfl 33 _ K19.out (show 0 + 10 ≤ 10 by decide) info_en (by simp [Value.oneCell']) #[.int .i64 b0, .int .u64 b1, .int .i64 b2, .int .i64 b3, .int .u64 b4, .bool b5, .bool b6, .bool b7, .bool b8, .int .i64 b9] rfl ?_
                           intro wy ky ty
                           have HWy := Hid.mk (below_turn HW.out ty (Nat.le_trans HBq.out.size (Nat.le_succ _)))
                           have K16y := Hid.mk (block_turn ty K16.out (by have := block_lt H16q.out; omega))
                           have K18y := Hid.mk (block_turn ty K18.out (by omega))
                           have K19y := Hid.mk ky
                           clear ty
                           obtain ⟨s0, s1, s2, s3, s4, s5, s6, s7, s8, s9⟩ := cells10 ky
                           clear ky)
                        | fail)
                      refine (hFdD _ (HB7.out.later HWy.out)).mono ?_
                      rintro e w8 ⟨rfl, hb8⟩
                      have HQ := Hid.mk (below_tr HWy.out (below_tr hb8 (below_new w8 (.cells #[.int .i64 z0, .int .u64 z1, .int .i64 z2, .int .i64 z3, .int .u64 z4, .bool z5, .bool z6, .bool z7, .bool z8, .int .i64 z9] 33))))
                      have L16 := Hid.mk (block_later (below_tr hb8 (below_new w8 (.cells #[.int .i64 z0, .int .u64 z1, .int .i64 z2, .int .i64 z3, .int .u64 z4, .bool z5, .bool z6, .bool z7, .bool z8, .int .i64 z9] 33))) K16y.out)
                      have L18 := Hid.mk (block_later (below_tr hb8 (below_new w8 (.cells #[.int .i64 z0, .int .u64 z1, .int .i64 z2, .int .i64 z3, .int .u64 z4, .bool z5, .bool z6, .bool z7, .bool z8, .int .i64 z9] 33))) K18y.out)
                      have L19 := Hid.mk (block_later (below_tr hb8 (below_new w8 (.cells #[.int .i64 z0, .int .u64 z1, .int .i64 z2, .int .i64 z3, .int .u64 z4, .bool z5, .bool z6, .bool z7, .bool z8, .int .i64 z9] 33))) K19y.out)
                      clear hb8 hFdD d0 d1 d2 d3 d4 d5 d6 d7 d8 d9 q0 q1 q2 q3 q4 q5 q6 q7 q8 q9 s0 s1 s2 s3 s4 s5 s6 s7 s8 s9 K16y K18y K19y HWy
                      clear K16 K18 K19 HW
                      go_upto_region 29 with fail
                      generalize w8.alloc (.cells #[.int .i64 z0, .int .u64 z1, .int .i64 z2, .int .i64 z3, .int .u64 z4, .bool z5, .bool z6, .bool z7, .bool z8, .int .i64 z9] 33) = w9 at *
                      obtain ⟨p0, p1, p2, p3, p4, p5, p6, p7, p8, p9⟩ := cells10 L16.out
                      obtain ⟨s0, s1, s2, s3, s4, s5, s6, s7, s8, s9⟩ := cells10 L19.out
                      go_wp2_with fail
                      refine (hMx _).mono ?_
                      rintro e w10 ⟨rfl, hb10⟩
                      clear p0 p1 p2 p3 p4 p5 p6 p7 p8 p9 s0 s1 s2 s3 s4 s5 s6 s7 s8 s9
                      have HQ2 := Hid.mk (below_tr HQ.out hb10)
                      have M16 := Hid.mk (block_later hb10 L16.out)
                      have M18 := Hid.mk (block_later hb10 L18.out)
                      have M19 := Hid.mk (block_later hb10 L19.out)
                      clear hb10 HQ L16 L18 L19
                      obtain ⟨p0, p1, p2, p3, p4, p5, p6, p7, p8, p9⟩ := cells10 M18.out
                      obtain ⟨s0, s1, s2, s3, s4, s5, s6, s7, s8, s9⟩ := cells10 M19.out
                      go_wp2_with fail
                      refine (hMy _).mono ?_
                      rintro e w11 ⟨rfl, hb11⟩
                      clear p0 p1 p2 p3 p4 p5 p6 p7 p8 p9 s0 s1 s2 s3 s4 s5 s6 s7 s8 s9
                      have hz2 : ¬ ((ZN : Nat) : Int) < 2 := by have := HZ.out HMM.out; omega
                      have hab := HEA.out i (i + 1 + k) HIJ.out.1 HIJ.out.2 HMM.out HFD2.out.1 HFD2.out.2
                      have K9c : w7.heap[B9]? = some (.cells #[.int .i64 a0, .int .u64 a1, .int .i64 a2, .int .i64 a3, .int .u64 a4, .bool a5, .bool a6, .bool a7, .bool a8, .int .i64 a9] 33 (0, 0)) := by
                        have e1 : (⟨m0, m1, m2, m3, m4, m5, m6, m7, m8, m9⟩ : En) = ⟨a0, a1, a2, a3, a4, a5, a6, a7, a8, a9⟩ := hab.1.trans HX.out.symm
                        have h9 : w7.heap[B9]? = some (.cells (En.ar ⟨m0, m1, m2, m3, m4, m5, m6, m7, m8, m9⟩) 33 (0, 0)) := K9b.out
                        rw [e1] at h9
                        exact h9
                      have K10c : w7.heap[B9 + 1]? = some (.cells #[.int .i64 b0, .int .u64 b1, .int .i64 b2, .int .i64 b3, .int .u64 b4, .bool b5, .bool b6, .bool b7, .bool b8, .int .i64 b9] 33 (0, 0)) := by
                        have e1 : (⟨n0, n1, n2, n3, n4, n5, n6, n7, n8, n9⟩ : En) = ⟨b0, b1, b2, b3, b4, b5, b6, b7, b8, b9⟩ := hab.2.trans HY.out.symm
                        have h9 : w7.heap[B9 + 1]? = some (.cells (En.ar ⟨n0, n1, n2, n3, n4, n5, n6, n7, n8, n9⟩) 33 (0, 0)) := K10b.out
                        rw [e1] at h9
                        exact h9
                      have hbb := below_tr HQ2.out hb11
                      obtain ⟨p0, p1, p2, p3, p4, p5, p6, p7, p8, p9⟩ := cells10 (block_later hbb K9c)
                      obtain ⟨s0, s1, s2, s3, s4, s5, s6, s7, s8, s9⟩ := cells10 (block_later hbb K10c)
                      obtain ⟨d0, d1, d2, d3, d4, d5, d6, d7, d8, d9⟩ := cells10 (block_later hb11 M16.out)
                      obtain ⟨q0, q1, q2, q3, q4, q5, q6, q7, q8, q9⟩ := cells10 (block_later hb11 M18.out)
                      clear K9c K10c hbb hab
                      go_wp2
                      go_roundw
                      case rel => exact ⟨k + 1, true, HKT.out, by go_num, rfl, Fd.yes HIJ.out.1 HIJ.out.2 HMM.out, below_tr HQ2.out hb11, block_later hb11 M16.out⟩
                      case measure => have := HKT.out; simp [RowKit.intOf]; omega
                    · skip
                      go_wp2_with (first
                        | (refine wpList_store_segTo rfl 33 _ _ rfl rfl (wr.heap.size + 1) 0 _ #[.int .i64 b0, .int .u64 b1, .int .i64 b2, .int .i64 b3, .int .u64 b4, .bool b5, .bool b6, .bool b7, .bool b8, .int .i64 b9] rfl rfl rfl 33 _ K19.out (show 0 + 10 ≤ 10 by decide) info_en (by simp [Value.oneCell']) #[.int .i64 b0, .int .u64 b1, .int .i64 b2, .int .i64 b3, .int .u64 b4, .bool b5, .bool b6, .bool b7, .bool b8, .int .i64 b9] rfl ?_
                           intro wy ky ty
                           have HWy := Hid.mk (below_turn HW.out ty (Nat.le_trans HBq.out.size (Nat.le_succ _)))
                           have K16y := Hid.mk (block_turn ty K16.out (by have := block_lt H16q.out; omega))
                           have K18y := Hid.mk (block_turn ty K18.out (by omega))
                           have K19y := Hid.mk ky
                           clear ty
                           obtain ⟨s0, s1, s2, s3, s4, s5, s6, s7, s8, s9⟩ := cells10 ky
                           clear ky)
                        | fail)
                      refine (hFdD _ (HB7.out.later HWy.out)).mono ?_
                      rintro e w8 ⟨rfl, hb8⟩
                      have HQ := Hid.mk (below_tr HWy.out (below_tr hb8 (below_new w8 (.cells #[.int .i64 z0, .int .u64 z1, .int .i64 z2, .int .i64 z3, .int .u64 z4, .bool z5, .bool z6, .bool z7, .bool z8, .int .i64 z9] 33))))
                      have L16 := Hid.mk (block_later (below_tr hb8 (below_new w8 (.cells #[.int .i64 z0, .int .u64 z1, .int .i64 z2, .int .i64 z3, .int .u64 z4, .bool z5, .bool z6, .bool z7, .bool z8, .int .i64 z9] 33))) K16y.out)
                      have L18 := Hid.mk (block_later (below_tr hb8 (below_new w8 (.cells #[.int .i64 z0, .int .u64 z1, .int .i64 z2, .int .i64 z3, .int .u64 z4, .bool z5, .bool z6, .bool z7, .bool z8, .int .i64 z9] 33))) K18y.out)
                      have L19 := Hid.mk (block_later (below_tr hb8 (below_new w8 (.cells #[.int .i64 z0, .int .u64 z1, .int .i64 z2, .int .i64 z3, .int .u64 z4, .bool z5, .bool z6, .bool z7, .bool z8, .int .i64 z9] 33))) K19y.out)
                      clear hb8 hFdD d0 d1 d2 d3 d4 d5 d6 d7 d8 d9 q0 q1 q2 q3 q4 q5 q6 q7 q8 q9 s0 s1 s2 s3 s4 s5 s6 s7 s8 s9 K16y K18y K19y HWy
                      clear K16 K18 K19 HW
                      go_upto_region 29 with fail
                      generalize w8.alloc (.cells #[.int .i64 z0, .int .u64 z1, .int .i64 z2, .int .i64 z3, .int .u64 z4, .bool z5, .bool z6, .bool z7, .bool z8, .int .i64 z9] 33) = w9 at *
                      obtain ⟨p0, p1, p2, p3, p4, p5, p6, p7, p8, p9⟩ := cells10 L16.out
                      obtain ⟨s0, s1, s2, s3, s4, s5, s6, s7, s8, s9⟩ := cells10 L19.out
                      go_wp2_with fail
                      refine (hMx _).mono ?_
                      rintro e w10 ⟨rfl, hb10⟩
                      clear p0 p1 p2 p3 p4 p5 p6 p7 p8 p9 s0 s1 s2 s3 s4 s5 s6 s7 s8 s9
                      have HQ2 := Hid.mk (below_tr HQ.out hb10)
                      have M16 := Hid.mk (block_later hb10 L16.out)
                      have M18 := Hid.mk (block_later hb10 L18.out)
                      have M19 := Hid.mk (block_later hb10 L19.out)
                      clear hb10 HQ L16 L18 L19
                      obtain ⟨p0, p1, p2, p3, p4, p5, p6, p7, p8, p9⟩ := cells10 M18.out
                      obtain ⟨s0, s1, s2, s3, s4, s5, s6, s7, s8, s9⟩ := cells10 M19.out
                      go_wp2_with fail
                      refine (hMy _).mono ?_
                      rintro e w11 ⟨rfl, hb11⟩
                      clear p0 p1 p2 p3 p4 p5 p6 p7 p8 p9 s0 s1 s2 s3 s4 s5 s6 s7 s8 s9
                      have hz2 : ¬ ((ZN : Nat) : Int) < 2 := by have := HZ.out HMM.out; omega
                      go_wp2
                      go_roundw
                      case rel => exact ⟨k + 1, true, HKT.out, by go_num, rfl, Fd.yes HIJ.out.1 HIJ.out.2 HMM.out, below_tr HQ2.out hb11, block_later hb11 M16.out⟩
                      case measure => have := HKT.out; simp [RowKit.intOf]; omega
                · skip
                  have hself : mB ⟨a0, a1, a2, a3, a4, a5, a6, a7, a8, a9⟩ a0 a1 = true := right_self hrx
                  have hDE : deepE ⟨a0, a1, a2, a3, a4, a5, a6, a7, a8, a9⟩ ⟨b0, b1, b2, b3, b4, b5, b6, b7, b8, b9⟩ = ⟨a0, a1, a2, a3, a4, a5, a6, a7, a8, a9⟩ := if_neg hlv
                  rw [hDE] at hMT
                  simp only at hMT
                  rw [hself, Bool.true_and] at hMT
                  have hFdD := fun W (hW : Buf W X t 64 F) => find_c hW (by omega) a0 a1 hox.1
                  have hMx := fun W => matches_any ⟨a0, a1, a2, a3, a4, a5, a6, a7, a8, a9⟩ a0 a1 hox.1 W
                  have hMy := fun W => matches_any ⟨b0, b1, b2, b3, b4, b5, b6, b7, b8, b9⟩ a0 a1 hox.1 W
                  have hMT2 := hMT.trans (show mtB ⟨a0, a1, a2, a3, a4, a5, a6, a7, a8, a9⟩ ⟨b0, b1, b2, b3, b4, b5, b6, b7, b8, b9⟩ = mtB (gE F i) (gE F (i + 1 + k)) by rw [HX.out, HY.out])
                  rw [hself] at hMx
                  rw [hMT2] at hMy
                  have HZ : Hid (mtB (gE F i) (gE F (i + 1 + k)) = true → 2 ≤ cntE (fun e => mB e a0 a1) F) := fun h => by
                    rw [← HX.out, ← HY.out] at h
                    refine cnt_two (i := i) (j := i + 1 + k) HIJ.out.1 HIJ.out.2 ?_ ?_
                    · show mB (gE F i) a0 a1 = true
                      rw [← HX.out]; exact hself
                    · show mB (gE F (i + 1 + k)) a0 a1 = true
                      rw [← HY.out]; exact hMT.trans h
                  generalize fndE (fun e => mB e a0 a1) F = ZE at *
                  generalize cntE (fun e => mB e a0 a1) F = ZN at *
                  obtain ⟨z0, z1, z2, z3, z4, z5, z6, z7, z8, z9⟩ := ZE
                  have dlv : decide (a2 < b2) = false := decide_eq_false hlv
                  clear hself hDE hMT hMT2 hrx hry hox hoy
                  simp only [En.v] at *
                  cases hM : mtB (gE F i) (gE F (i + 1 + k))
                  · rw [hM] at hMy
                    have HMM := Hid.mk hM
                    clear hM
                    go_wp2_with fail
                    refine (hFdD _ (HB7.out.later HW.out)).mono ?_
                    rintro e w8 ⟨rfl, hb8⟩
                    have HQ := Hid.mk (below_tr HW.out (below_tr hb8 (below_new w8 (.cells #[.int .i64 z0, .int .u64 z1, .int .i64 z2, .int .i64 z3, .int .u64 z4, .bool z5, .bool z6, .bool z7, .bool z8, .int .i64 z9] 33))))
                    have L16 := Hid.mk (block_later (below_tr hb8 (below_new w8 (.cells #[.int .i64 z0, .int .u64 z1, .int .i64 z2, .int .i64 z3, .int .u64 z4, .bool z5, .bool z6, .bool z7, .bool z8, .int .i64 z9] 33))) K16.out)
                    have L18 := Hid.mk (block_later (below_tr hb8 (below_new w8 (.cells #[.int .i64 z0, .int .u64 z1, .int .i64 z2, .int .i64 z3, .int .u64 z4, .bool z5, .bool z6, .bool z7, .bool z8, .int .i64 z9] 33))) K18.out)
                    have L19 := Hid.mk (block_later (below_tr hb8 (below_new w8 (.cells #[.int .i64 z0, .int .u64 z1, .int .i64 z2, .int .i64 z3, .int .u64 z4, .bool z5, .bool z6, .bool z7, .bool z8, .int .i64 z9] 33))) K19.out)
                    clear hb8 hFdD d0 d1 d2 d3 d4 d5 d6 d7 d8 d9 q0 q1 q2 q3 q4 q5 q6 q7 q8 q9
                    clear K16 K18 K19 HW
                    go_upto_region 29 with fail
                    generalize w8.alloc (.cells #[.int .i64 z0, .int .u64 z1, .int .i64 z2, .int .i64 z3, .int .u64 z4, .bool z5, .bool z6, .bool z7, .bool z8, .int .i64 z9] 33) = w9 at *
                    obtain ⟨p0, p1, p2, p3, p4, p5, p6, p7, p8, p9⟩ := cells10 L16.out
                    obtain ⟨s0, s1, s2, s3, s4, s5, s6, s7, s8, s9⟩ := cells10 L19.out
                    go_wp2_with fail
                    refine (hMx _).mono ?_
                    rintro e w10 ⟨rfl, hb10⟩
                    clear p0 p1 p2 p3 p4 p5 p6 p7 p8 p9 s0 s1 s2 s3 s4 s5 s6 s7 s8 s9
                    have HQ2 := Hid.mk (below_tr HQ.out hb10)
                    have M16 := Hid.mk (block_later hb10 L16.out)
                    have M18 := Hid.mk (block_later hb10 L18.out)
                    have M19 := Hid.mk (block_later hb10 L19.out)
                    clear hb10 HQ L16 L18 L19
                    obtain ⟨p0, p1, p2, p3, p4, p5, p6, p7, p8, p9⟩ := cells10 M18.out
                    obtain ⟨s0, s1, s2, s3, s4, s5, s6, s7, s8, s9⟩ := cells10 M19.out
                    go_wp2_with fail
                    refine (hMy _).mono ?_
                    rintro e w11 ⟨rfl, hb11⟩
                    clear p0 p1 p2 p3 p4 p5 p6 p7 p8 p9 s0 s1 s2 s3 s4 s5 s6 s7 s8 s9
                    go_wp2
                    go_roundw
                    case rel => exact ⟨k + 1, f2, HKT.out, by go_num, rfl, HFD2.out.no HMM.out, below_tr HQ2.out hb11, block_later hb11 M16.out⟩
                    case measure => have := HKT.out; simp [RowKit.intOf]; omega
                  · rw [hM] at hMy
                    have HMM := Hid.mk hM
                    clear hM
                    cases f2
                    · have HFD3 : Hid (NoC F i ∧ NoR F i (i + 1 + k)) := by
                        rcases HFD2.out with ⟨-, h1, h2⟩ | ⟨h1, -⟩
                        · exact ⟨h1, h2⟩
                        · cases h1
                      clear HFD2
                      have HFD2 := HFD3
                      clear HFD3
                      go_wp2_with fail
                      refine (hFdD _ (HB7.out.later HW.out)).mono ?_
                      rintro e w8 ⟨rfl, hb8⟩
                      have HQ := Hid.mk (below_tr HW.out (below_tr hb8 (below_new w8 (.cells #[.int .i64 z0, .int .u64 z1, .int .i64 z2, .int .i64 z3, .int .u64 z4, .bool z5, .bool z6, .bool z7, .bool z8, .int .i64 z9] 33))))
                      have L16 := Hid.mk (block_later (below_tr hb8 (below_new w8 (.cells #[.int .i64 z0, .int .u64 z1, .int .i64 z2, .int .i64 z3, .int .u64 z4, .bool z5, .bool z6, .bool z7, .bool z8, .int .i64 z9] 33))) K16.out)
                      have L18 := Hid.mk (block_later (below_tr hb8 (below_new w8 (.cells #[.int .i64 z0, .int .u64 z1, .int .i64 z2, .int .i64 z3, .int .u64 z4, .bool z5, .bool z6, .bool z7, .bool z8, .int .i64 z9] 33))) K18.out)
                      have L19 := Hid.mk (block_later (below_tr hb8 (below_new w8 (.cells #[.int .i64 z0, .int .u64 z1, .int .i64 z2, .int .i64 z3, .int .u64 z4, .bool z5, .bool z6, .bool z7, .bool z8, .int .i64 z9] 33))) K19.out)
                      clear hb8 hFdD d0 d1 d2 d3 d4 d5 d6 d7 d8 d9 q0 q1 q2 q3 q4 q5 q6 q7 q8 q9
                      clear K16 K18 K19 HW
                      go_upto_region 29 with fail
                      generalize w8.alloc (.cells #[.int .i64 z0, .int .u64 z1, .int .i64 z2, .int .i64 z3, .int .u64 z4, .bool z5, .bool z6, .bool z7, .bool z8, .int .i64 z9] 33) = w9 at *
                      obtain ⟨p0, p1, p2, p3, p4, p5, p6, p7, p8, p9⟩ := cells10 L16.out
                      obtain ⟨s0, s1, s2, s3, s4, s5, s6, s7, s8, s9⟩ := cells10 L19.out
                      go_wp2_with fail
                      refine (hMx _).mono ?_
                      rintro e w10 ⟨rfl, hb10⟩
                      clear p0 p1 p2 p3 p4 p5 p6 p7 p8 p9 s0 s1 s2 s3 s4 s5 s6 s7 s8 s9
                      have HQ2 := Hid.mk (below_tr HQ.out hb10)
                      have M16 := Hid.mk (block_later hb10 L16.out)
                      have M18 := Hid.mk (block_later hb10 L18.out)
                      have M19 := Hid.mk (block_later hb10 L19.out)
                      clear hb10 HQ L16 L18 L19
                      obtain ⟨p0, p1, p2, p3, p4, p5, p6, p7, p8, p9⟩ := cells10 M18.out
                      obtain ⟨s0, s1, s2, s3, s4, s5, s6, s7, s8, s9⟩ := cells10 M19.out
                      go_wp2_with fail
                      refine (hMy _).mono ?_
                      rintro e w11 ⟨rfl, hb11⟩
                      clear p0 p1 p2 p3 p4 p5 p6 p7 p8 p9 s0 s1 s2 s3 s4 s5 s6 s7 s8 s9
                      have hz2 : ¬ ((ZN : Nat) : Int) < 2 := by have := HZ.out HMM.out; omega
                      have hab := HEA.out i (i + 1 + k) HIJ.out.1 HIJ.out.2 HMM.out HFD2.out.1 HFD2.out.2
                      have K9c : w7.heap[B9]? = some (.cells #[.int .i64 a0, .int .u64 a1, .int .i64 a2, .int .i64 a3, .int .u64 a4, .bool a5, .bool a6, .bool a7, .bool a8, .int .i64 a9] 33 (0, 0)) := by
                        have e1 : (⟨m0, m1, m2, m3, m4, m5, m6, m7, m8, m9⟩ : En) = ⟨a0, a1, a2, a3, a4, a5, a6, a7, a8, a9⟩ := hab.1.trans HX.out.symm
                        have h9 : w7.heap[B9]? = some (.cells (En.ar ⟨m0, m1, m2, m3, m4, m5, m6, m7, m8, m9⟩) 33 (0, 0)) := K9b.out
                        rw [e1] at h9
                        exact h9
                      have K10c : w7.heap[B9 + 1]? = some (.cells #[.int .i64 b0, .int .u64 b1, .int .i64 b2, .int .i64 b3, .int .u64 b4, .bool b5, .bool b6, .bool b7, .bool b8, .int .i64 b9] 33 (0, 0)) := by
                        have e1 : (⟨n0, n1, n2, n3, n4, n5, n6, n7, n8, n9⟩ : En) = ⟨b0, b1, b2, b3, b4, b5, b6, b7, b8, b9⟩ := hab.2.trans HY.out.symm
                        have h9 : w7.heap[B9 + 1]? = some (.cells (En.ar ⟨n0, n1, n2, n3, n4, n5, n6, n7, n8, n9⟩) 33 (0, 0)) := K10b.out
                        rw [e1] at h9
                        exact h9
                      have hbb := below_tr HQ2.out hb11
                      obtain ⟨p0, p1, p2, p3, p4, p5, p6, p7, p8, p9⟩ := cells10 (block_later hbb K9c)
                      obtain ⟨s0, s1, s2, s3, s4, s5, s6, s7, s8, s9⟩ := cells10 (block_later hbb K10c)
                      obtain ⟨d0, d1, d2, d3, d4, d5, d6, d7, d8, d9⟩ := cells10 (block_later hb11 M16.out)
                      obtain ⟨q0, q1, q2, q3, q4, q5, q6, q7, q8, q9⟩ := cells10 (block_later hb11 M18.out)
                      clear K9c K10c hbb hab
                      go_wp2
                      go_roundw
                      case rel => exact ⟨k + 1, true, HKT.out, by go_num, rfl, Fd.yes HIJ.out.1 HIJ.out.2 HMM.out, below_tr HQ2.out hb11, block_later hb11 M16.out⟩
                      case measure => have := HKT.out; simp [RowKit.intOf]; omega
                    · skip
                      go_wp2_with fail
                      refine (hFdD _ (HB7.out.later HW.out)).mono ?_
                      rintro e w8 ⟨rfl, hb8⟩
                      have HQ := Hid.mk (below_tr HW.out (below_tr hb8 (below_new w8 (.cells #[.int .i64 z0, .int .u64 z1, .int .i64 z2, .int .i64 z3, .int .u64 z4, .bool z5, .bool z6, .bool z7, .bool z8, .int .i64 z9] 33))))
                      have L16 := Hid.mk (block_later (below_tr hb8 (below_new w8 (.cells #[.int .i64 z0, .int .u64 z1, .int .i64 z2, .int .i64 z3, .int .u64 z4, .bool z5, .bool z6, .bool z7, .bool z8, .int .i64 z9] 33))) K16.out)
                      have L18 := Hid.mk (block_later (below_tr hb8 (below_new w8 (.cells #[.int .i64 z0, .int .u64 z1, .int .i64 z2, .int .i64 z3, .int .u64 z4, .bool z5, .bool z6, .bool z7, .bool z8, .int .i64 z9] 33))) K18.out)
                      have L19 := Hid.mk (block_later (below_tr hb8 (below_new w8 (.cells #[.int .i64 z0, .int .u64 z1, .int .i64 z2, .int .i64 z3, .int .u64 z4, .bool z5, .bool z6, .bool z7, .bool z8, .int .i64 z9] 33))) K19.out)
                      clear hb8 hFdD d0 d1 d2 d3 d4 d5 d6 d7 d8 d9 q0 q1 q2 q3 q4 q5 q6 q7 q8 q9
                      clear K16 K18 K19 HW
                      go_upto_region 29 with fail
                      generalize w8.alloc (.cells #[.int .i64 z0, .int .u64 z1, .int .i64 z2, .int .i64 z3, .int .u64 z4, .bool z5, .bool z6, .bool z7, .bool z8, .int .i64 z9] 33) = w9 at *
                      obtain ⟨p0, p1, p2, p3, p4, p5, p6, p7, p8, p9⟩ := cells10 L16.out
                      obtain ⟨s0, s1, s2, s3, s4, s5, s6, s7, s8, s9⟩ := cells10 L19.out
                      go_wp2_with fail
                      refine (hMx _).mono ?_
                      rintro e w10 ⟨rfl, hb10⟩
                      clear p0 p1 p2 p3 p4 p5 p6 p7 p8 p9 s0 s1 s2 s3 s4 s5 s6 s7 s8 s9
                      have HQ2 := Hid.mk (below_tr HQ.out hb10)
                      have M16 := Hid.mk (block_later hb10 L16.out)
                      have M18 := Hid.mk (block_later hb10 L18.out)
                      have M19 := Hid.mk (block_later hb10 L19.out)
                      clear hb10 HQ L16 L18 L19
                      obtain ⟨p0, p1, p2, p3, p4, p5, p6, p7, p8, p9⟩ := cells10 M18.out
                      obtain ⟨s0, s1, s2, s3, s4, s5, s6, s7, s8, s9⟩ := cells10 M19.out
                      go_wp2_with fail
                      refine (hMy _).mono ?_
                      rintro e w11 ⟨rfl, hb11⟩
                      clear p0 p1 p2 p3 p4 p5 p6 p7 p8 p9 s0 s1 s2 s3 s4 s5 s6 s7 s8 s9
                      have hz2 : ¬ ((ZN : Nat) : Int) < 2 := by have := HZ.out HMM.out; omega
                      go_wp2
                      go_roundw
                      case rel => exact ⟨k + 1, true, HKT.out, by go_num, rfl, Fd.yes HIJ.out.1 HIJ.out.2 HMM.out, below_tr HQ2.out hb11, block_later hb11 M16.out⟩
                      case measure => have := HKT.out; simp [RowKit.intOf]; omega
              · have hkt2 : ¬ (k : Int) < ((F.length - (i + 1) : Nat) : Int) := by have := HLD.out; omega
                have hke : i + 1 + k = F.length := by have := HLD.out; have := HLT.out; omega
                have HFN : Hid (Fd F f2 (i + 1) (i + 1 + 1)) := by
                  have h7 := HFD2.out
                  rw [hke] at h7
                  exact h7.row
                clear hb hk hkt h16 hke
                go_wp2
                go_roundw
                case rel => exact ⟨i + 1, f2, by have := HLT.out; omega, by go_num, by rw [HC2.out]; go_num, rfl, HFN.out, HBq.out⟩
                case measure => have := HLT.out; simp [RowKit.intOf]; omega
          · skip
            have dq : (a0 == i0) = false := by rw [beq_eq_false_iff_ne]; exact hpy
            have HC2 : Hid (cI (i + 1) = cI i) := HCN.out i HLT.out (by rw [← HX.out]; exact hpy)
            clear hpy
            go_wp2
            clear d0 d1 d2 d3 d4 d5 d6 d7 d8 d9 hA
            have HNX := Hid.mk (below_tr HB.out (below_new wr (.cells #[.int .i64 a0, .int .u64 a1, .int .i64 a2, .int .i64 a3, .int .u64 a4, .bool a5, .bool a6, .bool a7, .bool a8, .int .i64 a9] 33)))
            have K16x := Hid.mk (heap_alloc_new wr (.cells #[.int .i64 a0, .int .u64 a1, .int .i64 a2, .int .i64 a3, .int .u64 a4, .bool a5, .bool a6, .bool a7, .bool a8, .int .i64 a9] 33))
            generalize wr.alloc (.cells #[.int .i64 a0, .int .u64 a1, .int .i64 a2, .int .i64 a3, .int .u64 a4, .bool a5, .bool a6, .bool a7, .bool a8, .int .i64 a9] 33) = wx at *
            generalize wr.heap.size = B16 at *
            go_loopw [14, 18, 19, 20, 21, 73] (fun s14 _ _ _ _ s73 wq => ∃ (k : Nat) (f2 : Bool), k ≤ (F.drop (i + 1)).length ∧ s73 = .int .i64 (k : Nat) ∧ s14 = .bool f2 ∧ Fd F f2 i (i + 1 + k) ∧ Below w7.heap.size w7 wq ∧ wq.heap[B16]? = some (.cells #[.int .i64 a0, .int .u64 a1, .int .i64 a2, .int .i64 a3, .int .u64 a4, .bool a5, .bool a6, .bool a7, .bool a8, .int .i64 a9] 33 (0, 0))) (fun _ _ _ _ _ s73 _ => (F.drop (i + 1)).length - (RowKit.intOf s73).toNat)
            case atStart => exact ⟨0, f, by omega, rfl, rfl, HFD.out, HNX.out, K16x.out⟩
            case round =>
              obtain ⟨k, f2, hk, rfl, rfl, hfd2, hb, h16⟩ := hrel
              have HBq := Hid.mk hb
              have H16q := Hid.mk h16
              have HFD2 := Hid.mk hfd2
              clear hfd2
              by_cases hkt : k < (F.drop (i + 1)).length
              · have hkt2 : (k : Int) < ((F.length - (i + 1) : Nat) : Int) := by have := HLD.out; omega
                have HKT := Hid.mk hkt
                have hkb : (k : Int) < 1000 := by have := HLD.out; omega
                have HIJ : Hid (i < i + 1 + k ∧ i + 1 + k < F.length) := ⟨by omega, by have := HLD.out; omega⟩
                obtain ⟨g2, o2, e2, hg2, hc⟩ := HAR.out w7 HRL.out k hkt
                cases e2
                rw [drop_get F i k hkt] at hc
                have d0 := cell_later hb (hc 0 _ rfl)
                have d1 := cell_later hb (hc 1 _ rfl)
                have d2 := cell_later hb (hc 2 _ rfl)
                have d3 := cell_later hb (hc 3 _ rfl)
                have d4 := cell_later hb (hc 4 _ rfl)
                have d5 := cell_later hb (hc 5 _ rfl)
                have d6 := cell_later hb (hc 6 _ rfl)
                have d7 := cell_later hb (hc 7 _ rfl)
                have d8 := cell_later hb (hc 8 _ rfl)
                have d9 := cell_later hb (hc 9 _ rfl)
                rw [Nat.add_zero] at d0
                obtain ⟨y, hy⟩ : ∃ y : En, y = (gE F (i + 1 + k)) := ⟨_, rfl⟩
                rw [← hy] at d0 d1 d2 d3 d4 d5 d6 d7 d8 d9
                have HY := Hid.mk hy
                have hrx := HRT.out i HLT.out
                have hry := HRT.out (i + 1 + k) HIJ.out.2
                have hox := HOK.out i HLT.out
                have hoy := HOK.out (i + 1 + k) HIJ.out.2
                rw [← HX.out] at hrx hox
                rw [← hy] at hry hoy
                clear hc hb hk hkt hg2 hy
                obtain ⟨b0, b1, b2, b3, b4, b5, b6, b7, b8, b9⟩ := y
                have hMT := deep_meet hrx hry
                obtain ⟨q0, q1, q2, q3, q4, q5, q6, q7, q8, q9⟩ := cells10 h16
                replace q0 := fun ob => cell_later (below_new wr ob) q0
                replace q1 := fun ob => cell_later (below_new wr ob) q1
                replace q2 := fun ob => cell_later (below_new wr ob) q2
                replace q3 := fun ob => cell_later (below_new wr ob) q3
                replace q4 := fun ob => cell_later (below_new wr ob) q4
                replace q5 := fun ob => cell_later (below_new wr ob) q5
                replace q6 := fun ob => cell_later (below_new wr ob) q6
                replace q7 := fun ob => cell_later (below_new wr ob) q7
                replace q8 := fun ob => cell_later (below_new wr ob) q8
                replace q9 := fun ob => cell_later (below_new wr ob) q9
                have K16 := Hid.mk (block_later (below_tr (below_new wr (.cells #[.int .i64 b0, .int .u64 b1, .int .i64 b2, .int .i64 b3, .int .u64 b4, .bool b5, .bool b6, .bool b7, .bool b8, .int .i64 b9] 33)) (below_new _ (.cells #[.int .i64 a0, .int .u64 a1, .int .i64 a2, .int .i64 a3, .int .u64 a4, .bool a5, .bool a6, .bool a7, .bool a8, .int .i64 a9] 33))) H16q.out)
                have K18 := Hid.mk (heap_alloc2_old wr (.cells #[.int .i64 b0, .int .u64 b1, .int .i64 b2, .int .i64 b3, .int .u64 b4, .bool b5, .bool b6, .bool b7, .bool b8, .int .i64 b9] 33) (.cells #[.int .i64 a0, .int .u64 a1, .int .i64 a2, .int .i64 a3, .int .u64 a4, .bool a5, .bool a6, .bool a7, .bool a8, .int .i64 a9] 33))
                have K19 := Hid.mk (heap_alloc2_new wr (.cells #[.int .i64 b0, .int .u64 b1, .int .i64 b2, .int .i64 b3, .int .u64 b4, .bool b5, .bool b6, .bool b7, .bool b8, .int .i64 b9] 33) (.cells #[.int .i64 a0, .int .u64 a1, .int .i64 a2, .int .i64 a3, .int .u64 a4, .bool a5, .bool a6, .bool a7, .bool a8, .int .i64 a9] 33))
                have HW := Hid.mk (below_tr HBq.out (below_tr (below_new wr (.cells #[.int .i64 b0, .int .u64 b1, .int .i64 b2, .int .i64 b3, .int .u64 b4, .bool b5, .bool b6, .bool b7, .bool b8, .int .i64 b9] 33)) (below_new _ (.cells #[.int .i64 a0, .int .u64 a1, .int .i64 a2, .int .i64 a3, .int .u64 a4, .bool a5, .bool a6, .bool a7, .bool a8, .int .i64 a9] 33))))
                have c16 := fun o1 o2 => cell_later (below_new (wr.alloc o1) o2) (q2 o1)
                clear h16
                simp only at *
                by_cases hlv : a2 < b2
                · skip
                  have hself : mB ⟨b0, b1, b2, b3, b4, b5, b6, b7, b8, b9⟩ b0 b1 = true := right_self hry
                  have hDE : deepE ⟨a0, a1, a2, a3, a4, a5, a6, a7, a8, a9⟩ ⟨b0, b1, b2, b3, b4, b5, b6, b7, b8, b9⟩ = ⟨b0, b1, b2, b3, b4, b5, b6, b7, b8, b9⟩ := if_pos hlv
                  rw [hDE] at hMT
                  simp only at hMT
                  rw [hself, Bool.and_true] at hMT
                  have hFdD := fun W (hW : Buf W X t 64 F) => find_c hW (by omega) b0 b1 hoy.1
                  have hMx := fun W => matches_any ⟨a0, a1, a2, a3, a4, a5, a6, a7, a8, a9⟩ b0 b1 hoy.1 W
                  have hMy := fun W => matches_any ⟨b0, b1, b2, b3, b4, b5, b6, b7, b8, b9⟩ b0 b1 hoy.1 W
                  have hMT2 := hMT.trans (show mtB ⟨a0, a1, a2, a3, a4, a5, a6, a7, a8, a9⟩ ⟨b0, b1, b2, b3, b4, b5, b6, b7, b8, b9⟩ = mtB (gE F i) (gE F (i + 1 + k)) by rw [HX.out, HY.out])
                  rw [hMT2] at hMx
                  rw [hself] at hMy
                  have HZ : Hid (mtB (gE F i) (gE F (i + 1 + k)) = true → 2 ≤ cntE (fun e => mB e b0 b1) F) := fun h => by
                    rw [← HX.out, ← HY.out] at h
                    refine cnt_two (i := i) (j := i + 1 + k) HIJ.out.1 HIJ.out.2 ?_ ?_
                    · show mB (gE F i) b0 b1 = true
                      rw [← HX.out]; exact hMT.trans h
                    · show mB (gE F (i + 1 + k)) b0 b1 = true
                      rw [← HY.out]; exact hself
                  generalize fndE (fun e => mB e b0 b1) F = ZE at *
                  generalize cntE (fun e => mB e b0 b1) F = ZN at *
                  obtain ⟨z0, z1, z2, z3, z4, z5, z6, z7, z8, z9⟩ := ZE
                  have dlv : decide (a2 < b2) = true := decide_eq_true hlv
                  clear hself hDE hMT hMT2 hrx hry hox hoy
                  simp only [En.v] at *
                  cases hM : mtB (gE F i) (gE F (i + 1 + k))
                  · rw [hM] at hMx
                    have HMM := Hid.mk hM
                    clear hM
                    go_wp2_with (first
                      | (refine wpList_store_segTo rfl 33 _ _ rfl rfl (wr.heap.size + 1) 0 _ #[.int .i64 b0, .int .u64 b1, .int .i64 b2, .int .i64 b3, .int .u64 b4, .bool b5, .bool b6, .bool b7, .bool b8, .int .i64 b9] rfl rfl rfl 33 _ K19.out (show 0 + 10 ≤ 10 by decide) info_en (by simp [Value.oneCell']) #[.int .i64 b0, .int .u64 b1, .int .i64 b2, .int .i64 b3, .int .u64 b4, .bool b5, .bool b6, .bool b7, .bool b8, .int .i64 b9] rfl ?_
                         intro wy ky ty
                         have HWy := Hid.mk (below_turn HW.out ty (Nat.le_trans HBq.out.size (Nat.le_succ _)))
                         have K16y := Hid.mk (block_turn ty K16.out (by have := block_lt H16q.out; omega))
                         have K18y := Hid.mk (block_turn ty K18.out (by omega))
                         have K19y := Hid.mk ky
                         clear ty
                         obtain ⟨s0, s1, s2, s3, s4, s5, s6, s7, s8, s9⟩ := cells10 ky
                         clear ky)
                      | fail)
                    refine (hFdD _ (HB7.out.later HWy.out)).mono ?_
                    rintro e w8 ⟨rfl, hb8⟩
                    have HQ := Hid.mk (below_tr HWy.out (below_tr hb8 (below_new w8 (.cells #[.int .i64 z0, .int .u64 z1, .int .i64 z2, .int .i64 z3, .int .u64 z4, .bool z5, .bool z6, .bool z7, .bool z8, .int .i64 z9] 33))))
                    have L16 := Hid.mk (block_later (below_tr hb8 (below_new w8 (.cells #[.int .i64 z0, .int .u64 z1, .int .i64 z2, .int .i64 z3, .int .u64 z4, .bool z5, .bool z6, .bool z7, .bool z8, .int .i64 z9] 33))) K16y.out)
                    have L18 := Hid.mk (block_later (below_tr hb8 (below_new w8 (.cells #[.int .i64 z0, .int .u64 z1, .int .i64 z2, .int .i64 z3, .int .u64 z4, .bool z5, .bool z6, .bool z7, .bool z8, .int .i64 z9] 33))) K18y.out)
                    have L19 := Hid.mk (block_later (below_tr hb8 (below_new w8 (.cells #[.int .i64 z0, .int .u64 z1, .int .i64 z2, .int .i64 z3, .int .u64 z4, .bool z5, .bool z6, .bool z7, .bool z8, .int .i64 z9] 33))) K19y.out)
                    clear hb8 hFdD d0 d1 d2 d3 d4 d5 d6 d7 d8 d9 q0 q1 q2 q3 q4 q5 q6 q7 q8 q9 s0 s1 s2 s3 s4 s5 s6 s7 s8 s9 K16y K18y K19y HWy
                    clear K16 K18 K19 HW
                    go_upto_region 29 with fail
                    generalize w8.alloc (.cells #[.int .i64 z0, .int .u64 z1, .int .i64 z2, .int .i64 z3, .int .u64 z4, .bool z5, .bool z6, .bool z7, .bool z8, .int .i64 z9] 33) = w9 at *
                    obtain ⟨p0, p1, p2, p3, p4, p5, p6, p7, p8, p9⟩ := cells10 L16.out
                    obtain ⟨s0, s1, s2, s3, s4, s5, s6, s7, s8, s9⟩ := cells10 L19.out
                    go_wp2_with fail
                    refine (hMx _).mono ?_
                    rintro e w10 ⟨rfl, hb10⟩
                    clear p0 p1 p2 p3 p4 p5 p6 p7 p8 p9 s0 s1 s2 s3 s4 s5 s6 s7 s8 s9
                    go_wp2
                    go_roundw
                    case rel => exact ⟨k + 1, f2, HKT.out, by go_num, rfl, HFD2.out.no HMM.out, below_tr HQ.out hb10, block_later hb10 L16.out⟩
                    case measure => have := HKT.out; simp [RowKit.intOf]; omega
                  · rw [hM] at hMx
                    have HMM := Hid.mk hM
                    clear hM
                    cases f2
                    · have HFD3 : Hid (NoC F i ∧ NoR F i (i + 1 + k)) := by
                        rcases HFD2.out with ⟨-, h1, h2⟩ | ⟨h1, -⟩
                        · exact ⟨h1, h2⟩
                        · cases h1
                      clear HFD2
                      have HFD2 := HFD3
                      clear HFD3
                      go_wp2_with (first
                        | (refine wpList_store_segTo rfl 33 _ _ rfl rfl (wr.heap.size + 1) 0 _ #[.int .i64 b0, .int .u64 b1, .int .i64 b2, .int .i64 b3, .int .u64 b4, .bool b5, .bool b6, .bool b7, .bool b8, .int .i64 b9] rfl rfl rfl 33 _ K19.out (show 0 + 10 ≤ 10 by decide) info_en (by simp [Value.oneCell']) #[.int .i64 b0, .int .u64 b1, .int .i64 b2, .int .i64 b3, .int .u64 b4, .bool b5, .bool b6, .bool b7, .bool b8, .int .i64 b9] rfl ?_
                           intro wy ky ty
                           have HWy := Hid.mk (below_turn HW.out ty (Nat.le_trans HBq.out.size (Nat.le_succ _)))
                           have K16y := Hid.mk (block_turn ty K16.out (by have := block_lt H16q.out; omega))
                           have K18y := Hid.mk (block_turn ty K18.out (by omega))
                           have K19y := Hid.mk ky
                           clear ty
                           obtain ⟨s0, s1, s2, s3, s4, s5, s6, s7, s8, s9⟩ := cells10 ky
                           clear ky)
                        | fail)
                      refine (hFdD _ (HB7.out.later HWy.out)).mono ?_
                      rintro e w8 ⟨rfl, hb8⟩
                      have HQ := Hid.mk (below_tr HWy.out (below_tr hb8 (below_new w8 (.cells #[.int .i64 z0, .int .u64 z1, .int .i64 z2, .int .i64 z3, .int .u64 z4, .bool z5, .bool z6, .bool z7, .bool z8, .int .i64 z9] 33))))
                      have L16 := Hid.mk (block_later (below_tr hb8 (below_new w8 (.cells #[.int .i64 z0, .int .u64 z1, .int .i64 z2, .int .i64 z3, .int .u64 z4, .bool z5, .bool z6, .bool z7, .bool z8, .int .i64 z9] 33))) K16y.out)
                      have L18 := Hid.mk (block_later (below_tr hb8 (below_new w8 (.cells #[.int .i64 z0, .int .u64 z1, .int .i64 z2, .int .i64 z3, .int .u64 z4, .bool z5, .bool z6, .bool z7, .bool z8, .int .i64 z9] 33))) K18y.out)
                      have L19 := Hid.mk (block_later (below_tr hb8 (below_new w8 (.cells #[.int .i64 z0, .int .u64 z1, .int .i64 z2, .int .i64 z3, .int .u64 z4, .bool z5, .bool z6, .bool z7, .bool z8, .int .i64 z9] 33))) K19y.out)
                      clear hb8 hFdD d0 d1 d2 d3 d4 d5 d6 d7 d8 d9 q0 q1 q2 q3 q4 q5 q6 q7 q8 q9 s0 s1 s2 s3 s4 s5 s6 s7 s8 s9 K16y K18y K19y HWy
                      clear K16 K18 K19 HW
                      go_upto_region 29 with fail
                      generalize w8.alloc (.cells #[.int .i64 z0, .int .u64 z1, .int .i64 z2, .int .i64 z3, .int .u64 z4, .bool z5, .bool z6, .bool z7, .bool z8, .int .i64 z9] 33) = w9 at *
                      obtain ⟨p0, p1, p2, p3, p4, p5, p6, p7, p8, p9⟩ := cells10 L16.out
                      obtain ⟨s0, s1, s2, s3, s4, s5, s6, s7, s8, s9⟩ := cells10 L19.out
                      go_wp2_with fail
                      refine (hMx _).mono ?_
                      rintro e w10 ⟨rfl, hb10⟩
                      clear p0 p1 p2 p3 p4 p5 p6 p7 p8 p9 s0 s1 s2 s3 s4 s5 s6 s7 s8 s9
                      have HQ2 := Hid.mk (below_tr HQ.out hb10)
                      have M16 := Hid.mk (block_later hb10 L16.out)
                      have M18 := Hid.mk (block_later hb10 L18.out)
                      have M19 := Hid.mk (block_later hb10 L19.out)
                      clear hb10 HQ L16 L18 L19
                      obtain ⟨p0, p1, p2, p3, p4, p5, p6, p7, p8, p9⟩ := cells10 M18.out
                      obtain ⟨s0, s1, s2, s3, s4, s5, s6, s7, s8, s9⟩ := cells10 M19.out
                      go_wp2_with fail
                      refine (hMy _).mono ?_
                      rintro e w11 ⟨rfl, hb11⟩
                      clear p0 p1 p2 p3 p4 p5 p6 p7 p8 p9 s0 s1 s2 s3 s4 s5 s6 s7 s8 s9
                      have hz2 : ¬ ((ZN : Nat) : Int) < 2 := by have := HZ.out HMM.out; omega
                      have hab := HEA.out i (i + 1 + k) HIJ.out.1 HIJ.out.2 HMM.out HFD2.out.1 HFD2.out.2
                      have K9c : w7.heap[B9]? = some (.cells #[.int .i64 a0, .int .u64 a1, .int .i64 a2, .int .i64 a3, .int .u64 a4, .bool a5, .bool a6, .bool a7, .bool a8, .int .i64 a9] 33 (0, 0)) := by
                        have e1 : (⟨m0, m1, m2, m3, m4, m5, m6, m7, m8, m9⟩ : En) = ⟨a0, a1, a2, a3, a4, a5, a6, a7, a8, a9⟩ := hab.1.trans HX.out.symm
                        have h9 : w7.heap[B9]? = some (.cells (En.ar ⟨m0, m1, m2, m3, m4, m5, m6, m7, m8, m9⟩) 33 (0, 0)) := K9b.out
                        rw [e1] at h9
                        exact h9
                      have K10c : w7.heap[B9 + 1]? = some (.cells #[.int .i64 b0, .int .u64 b1, .int .i64 b2, .int .i64 b3, .int .u64 b4, .bool b5, .bool b6, .bool b7, .bool b8, .int .i64 b9] 33 (0, 0)) := by
                        have e1 : (⟨n0, n1, n2, n3, n4, n5, n6, n7, n8, n9⟩ : En) = ⟨b0, b1, b2, b3, b4, b5, b6, b7, b8, b9⟩ := hab.2.trans HY.out.symm
                        have h9 : w7.heap[B9 + 1]? = some (.cells (En.ar ⟨n0, n1, n2, n3, n4, n5, n6, n7, n8, n9⟩) 33 (0, 0)) := K10b.out
                        rw [e1] at h9
                        exact h9
                      have hbb := below_tr HQ2.out hb11
                      obtain ⟨p0, p1, p2, p3, p4, p5, p6, p7, p8, p9⟩ := cells10 (block_later hbb K9c)
                      obtain ⟨s0, s1, s2, s3, s4, s5, s6, s7, s8, s9⟩ := cells10 (block_later hbb K10c)
                      obtain ⟨d0, d1, d2, d3, d4, d5, d6, d7, d8, d9⟩ := cells10 (block_later hb11 M16.out)
                      obtain ⟨q0, q1, q2, q3, q4, q5, q6, q7, q8, q9⟩ := cells10 (block_later hb11 M18.out)
                      clear K9c K10c hbb hab
                      go_wp2
                      go_roundw
                      case rel => exact ⟨k + 1, true, HKT.out, by go_num, rfl, Fd.yes HIJ.out.1 HIJ.out.2 HMM.out, below_tr HQ2.out hb11, block_later hb11 M16.out⟩
                      case measure => have := HKT.out; simp [RowKit.intOf]; omega
                    · skip
                      go_wp2_with (first
                        | (refine wpList_store_segTo rfl 33 _ _ rfl rfl (wr.heap.size + 1) 0 _ #[.int .i64 b0, .int .u64 b1, .int .i64 b2, .int .i64 b3, .int .u64 b4, .bool b5, .bool b6, .bool b7, .bool b8, .int .i64 b9] rfl rfl rfl 33 _ K19.out (show 0 + 10 ≤ 10 by decide) info_en (by simp [Value.oneCell']) #[.int .i64 b0, .int .u64 b1, .int .i64 b2, .int .i64 b3, .int .u64 b4, .bool b5, .bool b6, .bool b7, .bool b8, .int .i64 b9] rfl ?_
                           intro wy ky ty
                           have HWy := Hid.mk (below_turn HW.out ty (Nat.le_trans HBq.out.size (Nat.le_succ _)))
                           have K16y := Hid.mk (block_turn ty K16.out (by have := block_lt H16q.out; omega))
                           have K18y := Hid.mk (block_turn ty K18.out (by omega))
                           have K19y := Hid.mk ky
                           clear ty
                           obtain ⟨s0, s1, s2, s3, s4, s5, s6, s7, s8, s9⟩ := cells10 ky
                           clear ky)
                        | fail)
                      refine (hFdD _ (HB7.out.later HWy.out)).mono ?_
                      rintro e w8 ⟨rfl, hb8⟩
                      have HQ := Hid.mk (below_tr HWy.out (below_tr hb8 (below_new w8 (.cells #[.int .i64 z0, .int .u64 z1, .int .i64 z2, .int .i64 z3, .int .u64 z4, .bool z5, .bool z6, .bool z7, .bool z8, .int .i64 z9] 33))))
                      have L16 := Hid.mk (block_later (below_tr hb8 (below_new w8 (.cells #[.int .i64 z0, .int .u64 z1, .int .i64 z2, .int .i64 z3, .int .u64 z4, .bool z5, .bool z6, .bool z7, .bool z8, .int .i64 z9] 33))) K16y.out)
                      have L18 := Hid.mk (block_later (below_tr hb8 (below_new w8 (.cells #[.int .i64 z0, .int .u64 z1, .int .i64 z2, .int .i64 z3, .int .u64 z4, .bool z5, .bool z6, .bool z7, .bool z8, .int .i64 z9] 33))) K18y.out)
                      have L19 := Hid.mk (block_later (below_tr hb8 (below_new w8 (.cells #[.int .i64 z0, .int .u64 z1, .int .i64 z2, .int .i64 z3, .int .u64 z4, .bool z5, .bool z6, .bool z7, .bool z8, .int .i64 z9] 33))) K19y.out)
                      clear hb8 hFdD d0 d1 d2 d3 d4 d5 d6 d7 d8 d9 q0 q1 q2 q3 q4 q5 q6 q7 q8 q9 s0 s1 s2 s3 s4 s5 s6 s7 s8 s9 K16y K18y K19y HWy
                      clear K16 K18 K19 HW
                      go_upto_region 29 with fail
                      generalize w8.alloc (.cells #[.int .i64 z0, .int .u64 z1, .int .i64 z2, .int .i64 z3, .int .u64 z4, .bool z5, .bool z6, .bool z7, .bool z8, .int .i64 z9] 33) = w9 at *
                      obtain ⟨p0, p1, p2, p3, p4, p5, p6, p7, p8, p9⟩ := cells10 L16.out
                      obtain ⟨s0, s1, s2, s3, s4, s5, s6, s7, s8, s9⟩ := cells10 L19.out
                      go_wp2_with fail
                      refine (hMx _).mono ?_
                      rintro e w10 ⟨rfl, hb10⟩
                      clear p0 p1 p2 p3 p4 p5 p6 p7 p8 p9 s0 s1 s2 s3 s4 s5 s6 s7 s8 s9
                      have HQ2 := Hid.mk (below_tr HQ.out hb10)
                      have M16 := Hid.mk (block_later hb10 L16.out)
                      have M18 := Hid.mk (block_later hb10 L18.out)
                      have M19 := Hid.mk (block_later hb10 L19.out)
                      clear hb10 HQ L16 L18 L19
                      obtain ⟨p0, p1, p2, p3, p4, p5, p6, p7, p8, p9⟩ := cells10 M18.out
                      obtain ⟨s0, s1, s2, s3, s4, s5, s6, s7, s8, s9⟩ := cells10 M19.out
                      go_wp2_with fail
                      refine (hMy _).mono ?_
                      rintro e w11 ⟨rfl, hb11⟩
                      clear p0 p1 p2 p3 p4 p5 p6 p7 p8 p9 s0 s1 s2 s3 s4 s5 s6 s7 s8 s9
                      have hz2 : ¬ ((ZN : Nat) : Int) < 2 := by have := HZ.out HMM.out; omega
                      go_wp2
                      go_roundw
                      case rel => exact ⟨k + 1, true, HKT.out, by go_num, rfl, Fd.yes HIJ.out.1 HIJ.out.2 HMM.out, below_tr HQ2.out hb11, block_later hb11 M16.out⟩
                      case measure => have := HKT.out; simp [RowKit.intOf]; omega
                · skip
                  have hself : mB ⟨a0, a1, a2, a3, a4, a5, a6, a7, a8, a9⟩ a0 a1 = true := right_self hrx
                  have hDE : deepE ⟨a0, a1, a2, a3, a4, a5, a6, a7, a8, a9⟩ ⟨b0, b1, b2, b3, b4, b5, b6, b7, b8, b9⟩ = ⟨a0, a1, a2, a3, a4, a5, a6, a7, a8, a9⟩ := if_neg hlv
                  rw [hDE] at hMT
                  simp only at hMT
                  rw [hself, Bool.true_and] at hMT
                  have hFdD := fun W (hW : Buf W X t 64 F) => find_c hW (by omega) a0 a1 hox.1
                  have hMx := fun W => matches_any ⟨a0, a1, a2, a3, a4, a5, a6, a7, a8, a9⟩ a0 a1 hox.1 W
                  have hMy := fun W => matches_any ⟨b0, b1, b2, b3, b4, b5, b6, b7, b8, b9⟩ a0 a1 hox.1 W
                  have hMT2 := hMT.trans (show mtB ⟨a0, a1, a2, a3, a4, a5, a6, a7, a8, a9⟩ ⟨b0, b1, b2, b3, b4, b5, b6, b7, b8, b9⟩ = mtB (gE F i) (gE F (i + 1 + k)) by rw [HX.out, HY.out])
                  rw [hself] at hMx
                  rw [hMT2] at hMy
                  have HZ : Hid (mtB (gE F i) (gE F (i + 1 + k)) = true → 2 ≤ cntE (fun e => mB e a0 a1) F) := fun h => by
                    rw [← HX.out, ← HY.out] at h
                    refine cnt_two (i := i) (j := i + 1 + k) HIJ.out.1 HIJ.out.2 ?_ ?_
                    · show mB (gE F i) a0 a1 = true
                      rw [← HX.out]; exact hself
                    · show mB (gE F (i + 1 + k)) a0 a1 = true
                      rw [← HY.out]; exact hMT.trans h
                  generalize fndE (fun e => mB e a0 a1) F = ZE at *
                  generalize cntE (fun e => mB e a0 a1) F = ZN at *
                  obtain ⟨z0, z1, z2, z3, z4, z5, z6, z7, z8, z9⟩ := ZE
                  have dlv : decide (a2 < b2) = false := decide_eq_false hlv
                  clear hself hDE hMT hMT2 hrx hry hox hoy
                  simp only [En.v] at *
                  cases hM : mtB (gE F i) (gE F (i + 1 + k))
                  · rw [hM] at hMy
                    have HMM := Hid.mk hM
                    clear hM
                    go_wp2_with fail
                    refine (hFdD _ (HB7.out.later HW.out)).mono ?_
                    rintro e w8 ⟨rfl, hb8⟩
                    have HQ := Hid.mk (below_tr HW.out (below_tr hb8 (below_new w8 (.cells #[.int .i64 z0, .int .u64 z1, .int .i64 z2, .int .i64 z3, .int .u64 z4, .bool z5, .bool z6, .bool z7, .bool z8, .int .i64 z9] 33))))
                    have L16 := Hid.mk (block_later (below_tr hb8 (below_new w8 (.cells #[.int .i64 z0, .int .u64 z1, .int .i64 z2, .int .i64 z3, .int .u64 z4, .bool z5, .bool z6, .bool z7, .bool z8, .int .i64 z9] 33))) K16.out)
                    have L18 := Hid.mk (block_later (below_tr hb8 (below_new w8 (.cells #[.int .i64 z0, .int .u64 z1, .int .i64 z2, .int .i64 z3, .int .u64 z4, .bool z5, .bool z6, .bool z7, .bool z8, .int .i64 z9] 33))) K18.out)
                    have L19 := Hid.mk (block_later (below_tr hb8 (below_new w8 (.cells #[.int .i64 z0, .int .u64 z1, .int .i64 z2, .int .i64 z3, .int .u64 z4, .bool z5, .bool z6, .bool z7, .bool z8, .int .i64 z9] 33))) K19.out)
                    clear hb8 hFdD d0 d1 d2 d3 d4 d5 d6 d7 d8 d9 q0 q1 q2 q3 q4 q5 q6 q7 q8 q9
                    clear K16 K18 K19 HW
                    go_upto_region 29 with fail
                    generalize w8.alloc (.cells #[.int .i64 z0, .int .u64 z1, .int .i64 z2, .int .i64 z3, .int .u64 z4, .bool z5, .bool z6, .bool z7, .bool z8, .int .i64 z9] 33) = w9 at *
                    obtain ⟨p0, p1, p2, p3, p4, p5, p6, p7, p8, p9⟩ := cells10 L16.out
                    obtain ⟨s0, s1, s2, s3, s4, s5, s6, s7, s8, s9⟩ := cells10 L19.out
                    go_wp2_with fail
                    refine (hMx _).mono ?_
                    rintro e w10 ⟨rfl, hb10⟩
                    clear p0 p1 p2 p3 p4 p5 p6 p7 p8 p9 s0 s1 s2 s3 s4 s5 s6 s7 s8 s9
                    have HQ2 := Hid.mk (below_tr HQ.out hb10)
                    have M16 := Hid.mk (block_later hb10 L16.out)
                    have M18 := Hid.mk (block_later hb10 L18.out)
                    have M19 := Hid.mk (block_later hb10 L19.out)
                    clear hb10 HQ L16 L18 L19
                    obtain ⟨p0, p1, p2, p3, p4, p5, p6, p7, p8, p9⟩ := cells10 M18.out
                    obtain ⟨s0, s1, s2, s3, s4, s5, s6, s7, s8, s9⟩ := cells10 M19.out
                    go_wp2_with fail
                    refine (hMy _).mono ?_
                    rintro e w11 ⟨rfl, hb11⟩
                    clear p0 p1 p2 p3 p4 p5 p6 p7 p8 p9 s0 s1 s2 s3 s4 s5 s6 s7 s8 s9
                    go_wp2
                    go_roundw
                    case rel => exact ⟨k + 1, f2, HKT.out, by go_num, rfl, HFD2.out.no HMM.out, below_tr HQ2.out hb11, block_later hb11 M16.out⟩
                    case measure => have := HKT.out; simp [RowKit.intOf]; omega
                  · rw [hM] at hMy
                    have HMM := Hid.mk hM
                    clear hM
                    cases f2
                    · have HFD3 : Hid (NoC F i ∧ NoR F i (i + 1 + k)) := by
                        rcases HFD2.out with ⟨-, h1, h2⟩ | ⟨h1, -⟩
                        · exact ⟨h1, h2⟩
                        · cases h1
                      clear HFD2
                      have HFD2 := HFD3
                      clear HFD3
                      go_wp2_with fail
                      refine (hFdD _ (HB7.out.later HW.out)).mono ?_
                      rintro e w8 ⟨rfl, hb8⟩
                      have HQ := Hid.mk (below_tr HW.out (below_tr hb8 (below_new w8 (.cells #[.int .i64 z0, .int .u64 z1, .int .i64 z2, .int .i64 z3, .int .u64 z4, .bool z5, .bool z6, .bool z7, .bool z8, .int .i64 z9] 33))))
                      have L16 := Hid.mk (block_later (below_tr hb8 (below_new w8 (.cells #[.int .i64 z0, .int .u64 z1, .int .i64 z2, .int .i64 z3, .int .u64 z4, .bool z5, .bool z6, .bool z7, .bool z8, .int .i64 z9] 33))) K16.out)
                      have L18 := Hid.mk (block_later (below_tr hb8 (below_new w8 (.cells #[.int .i64 z0, .int .u64 z1, .int .i64 z2, .int .i64 z3, .int .u64 z4, .bool z5, .bool z6, .bool z7, .bool z8, .int .i64 z9] 33))) K18.out)
                      have L19 := Hid.mk (block_later (below_tr hb8 (below_new w8 (.cells #[.int .i64 z0, .int .u64 z1, .int .i64 z2, .int .i64 z3, .int .u64 z4, .bool z5, .bool z6, .bool z7, .bool z8, .int .i64 z9] 33))) K19.out)
                      clear hb8 hFdD d0 d1 d2 d3 d4 d5 d6 d7 d8 d9 q0 q1 q2 q3 q4 q5 q6 q7 q8 q9
                      clear K16 K18 K19 HW
                      go_upto_region 29 with fail
                      generalize w8.alloc (.cells #[.int .i64 z0, .int .u64 z1, .int .i64 z2, .int .i64 z3, .int .u64 z4, .bool z5, .bool z6, .bool z7, .bool z8, .int .i64 z9] 33) = w9 at *
                      obtain ⟨p0, p1, p2, p3, p4, p5, p6, p7, p8, p9⟩ := cells10 L16.out
                      obtain ⟨s0, s1, s2, s3, s4, s5, s6, s7, s8, s9⟩ := cells10 L19.out
                      go_wp2_with fail
                      refine (hMx _).mono ?_
                      rintro e w10 ⟨rfl, hb10⟩
                      clear p0 p1 p2 p3 p4 p5 p6 p7 p8 p9 s0 s1 s2 s3 s4 s5 s6 s7 s8 s9
                      have HQ2 := Hid.mk (below_tr HQ.out hb10)
                      have M16 := Hid.mk (block_later hb10 L16.out)
                      have M18 := Hid.mk (block_later hb10 L18.out)
                      have M19 := Hid.mk (block_later hb10 L19.out)
                      clear hb10 HQ L16 L18 L19
                      obtain ⟨p0, p1, p2, p3, p4, p5, p6, p7, p8, p9⟩ := cells10 M18.out
                      obtain ⟨s0, s1, s2, s3, s4, s5, s6, s7, s8, s9⟩ := cells10 M19.out
                      go_wp2_with fail
                      refine (hMy _).mono ?_
                      rintro e w11 ⟨rfl, hb11⟩
                      clear p0 p1 p2 p3 p4 p5 p6 p7 p8 p9 s0 s1 s2 s3 s4 s5 s6 s7 s8 s9
                      have hz2 : ¬ ((ZN : Nat) : Int) < 2 := by have := HZ.out HMM.out; omega
                      have hab := HEA.out i (i + 1 + k) HIJ.out.1 HIJ.out.2 HMM.out HFD2.out.1 HFD2.out.2
                      have K9c : w7.heap[B9]? = some (.cells #[.int .i64 a0, .int .u64 a1, .int .i64 a2, .int .i64 a3, .int .u64 a4, .bool a5, .bool a6, .bool a7, .bool a8, .int .i64 a9] 33 (0, 0)) := by
                        have e1 : (⟨m0, m1, m2, m3, m4, m5, m6, m7, m8, m9⟩ : En) = ⟨a0, a1, a2, a3, a4, a5, a6, a7, a8, a9⟩ := hab.1.trans HX.out.symm
                        have h9 : w7.heap[B9]? = some (.cells (En.ar ⟨m0, m1, m2, m3, m4, m5, m6, m7, m8, m9⟩) 33 (0, 0)) := K9b.out
                        rw [e1] at h9
                        exact h9
                      have K10c : w7.heap[B9 + 1]? = some (.cells #[.int .i64 b0, .int .u64 b1, .int .i64 b2, .int .i64 b3, .int .u64 b4, .bool b5, .bool b6, .bool b7, .bool b8, .int .i64 b9] 33 (0, 0)) := by
                        have e1 : (⟨n0, n1, n2, n3, n4, n5, n6, n7, n8, n9⟩ : En) = ⟨b0, b1, b2, b3, b4, b5, b6, b7, b8, b9⟩ := hab.2.trans HY.out.symm
                        have h9 : w7.heap[B9 + 1]? = some (.cells (En.ar ⟨n0, n1, n2, n3, n4, n5, n6, n7, n8, n9⟩) 33 (0, 0)) := K10b.out
                        rw [e1] at h9
                        exact h9
                      have hbb := below_tr HQ2.out hb11
                      obtain ⟨p0, p1, p2, p3, p4, p5, p6, p7, p8, p9⟩ := cells10 (block_later hbb K9c)
                      obtain ⟨s0, s1, s2, s3, s4, s5, s6, s7, s8, s9⟩ := cells10 (block_later hbb K10c)
                      obtain ⟨d0, d1, d2, d3, d4, d5, d6, d7, d8, d9⟩ := cells10 (block_later hb11 M16.out)
                      obtain ⟨q0, q1, q2, q3, q4, q5, q6, q7, q8, q9⟩ := cells10 (block_later hb11 M18.out)
                      clear K9c K10c hbb hab
                      go_wp2
                      go_roundw
                      case rel => exact ⟨k + 1, true, HKT.out, by go_num, rfl, Fd.yes HIJ.out.1 HIJ.out.2 HMM.out, below_tr HQ2.out hb11, block_later hb11 M16.out⟩
                      case measure => have := HKT.out; simp [RowKit.intOf]; omega
                    · skip
                      go_wp2_with fail
                      refine (hFdD _ (HB7.out.later HW.out)).mono ?_
                      rintro e w8 ⟨rfl, hb8⟩
                      have HQ := Hid.mk (below_tr HW.out (below_tr hb8 (below_new w8 (.cells #[.int .i64 z0, .int .u64 z1, .int .i64 z2, .int .i64 z3, .int .u64 z4, .bool z5, .bool z6, .bool z7, .bool z8, .int .i64 z9] 33))))
                      have L16 := Hid.mk (block_later (below_tr hb8 (below_new w8 (.cells #[.int .i64 z0, .int .u64 z1, .int .i64 z2, .int .i64 z3, .int .u64 z4, .bool z5, .bool z6, .bool z7, .bool z8, .int .i64 z9] 33))) K16.out)
                      have L18 := Hid.mk (block_later (below_tr hb8 (below_new w8 (.cells #[.int .i64 z0, .int .u64 z1, .int .i64 z2, .int .i64 z3, .int .u64 z4, .bool z5, .bool z6, .bool z7, .bool z8, .int .i64 z9] 33))) K18.out)
                      have L19 := Hid.mk (block_later (below_tr hb8 (below_new w8 (.cells #[.int .i64 z0, .int .u64 z1, .int .i64 z2, .int .i64 z3, .int .u64 z4, .bool z5, .bool z6, .bool z7, .bool z8, .int .i64 z9] 33))) K19.out)
                      clear hb8 hFdD d0 d1 d2 d3 d4 d5 d6 d7 d8 d9 q0 q1 q2 q3 q4 q5 q6 q7 q8 q9
                      clear K16 K18 K19 HW
                      go_upto_region 29 with fail
                      generalize w8.alloc (.cells #[.int .i64 z0, .int .u64 z1, .int .i64 z2, .int .i64 z3, .int .u64 z4, .bool z5, .bool z6, .bool z7, .bool z8, .int .i64 z9] 33) = w9 at *
                      obtain ⟨p0, p1, p2, p3, p4, p5, p6, p7, p8, p9⟩ := cells10 L16.out
                      obtain ⟨s0, s1, s2, s3, s4, s5, s6, s7, s8, s9⟩ := cells10 L19.out
                      go_wp2_with fail
                      refine (hMx _).mono ?_
                      rintro e w10 ⟨rfl, hb10⟩
                      clear p0 p1 p2 p3 p4 p5 p6 p7 p8 p9 s0 s1 s2 s3 s4 s5 s6 s7 s8 s9
                      have HQ2 := Hid.mk (below_tr HQ.out hb10)
                      have M16 := Hid.mk (block_later hb10 L16.out)
                      have M18 := Hid.mk (block_later hb10 L18.out)
                      have M19 := Hid.mk (block_later hb10 L19.out)
                      clear hb10 HQ L16 L18 L19
                      obtain ⟨p0, p1, p2, p3, p4, p5, p6, p7, p8, p9⟩ := cells10 M18.out
                      obtain ⟨s0, s1, s2, s3, s4, s5, s6, s7, s8, s9⟩ := cells10 M19.out
                      go_wp2_with fail
                      refine (hMy _).mono ?_
                      rintro e w11 ⟨rfl, hb11⟩
                      clear p0 p1 p2 p3 p4 p5 p6 p7 p8 p9 s0 s1 s2 s3 s4 s5 s6 s7 s8 s9
                      have hz2 : ¬ ((ZN : Nat) : Int) < 2 := by have := HZ.out HMM.out; omega
                      go_wp2
                      go_roundw
                      case rel => exact ⟨k + 1, true, HKT.out, by go_num, rfl, Fd.yes HIJ.out.1 HIJ.out.2 HMM.out, below_tr HQ2.out hb11, block_later hb11 M16.out⟩
                      case measure => have := HKT.out; simp [RowKit.intOf]; omega
              · have hkt2 : ¬ (k : Int) < ((F.length - (i + 1) : Nat) : Int) := by have := HLD.out; omega
                have hke : i + 1 + k = F.length := by have := HLD.out; have := HLT.out; omega
                have HFN : Hid (Fd F f2 (i + 1) (i + 1 + 1)) := by
                  have h7 := HFD2.out
                  rw [hke] at h7
                  exact h7.row
                clear hb hk hkt h16 hke
                go_wp2
                go_roundw
                case rel => exact ⟨i + 1, f2, by have := HLT.out; omega, by go_num, by rw [HC2.out], rfl, HFN.out, HBq.out⟩
                case measure => have := HLT.out; simp [RowKit.intOf]; omega
        · skip
          have hlt2 : ¬ (i : Int) < F.length := by omega
          obtain rfl : i = F.length := by omega
          have hce := HFD.out.end HCL.out
          subst hce
          rw [HCA.out.1] at hcl ⊢
          clear hlt hi hb
          have HB8 := Hid.mk (HB7.out.later HB.out)
          cases ec
          · obtain ⟨z1, z2⟩ := HE0.out rfl
            have K9c : w7.heap[B9]? = some (.cells #[.int .i64 0, .int .u64 0, .int .i64 0, .int .i64 0, .int .u64 0, .bool false, .bool false, .bool false, .bool false, .int .i64 0] 33 (0, 0)) := by
              have h9 : w7.heap[B9]? = some (.cells (En.ar ⟨m0, m1, m2, m3, m4, m5, m6, m7, m8, m9⟩) 33 (0, 0)) := K9b.out
              rw [z1] at h9
              exact h9
            have K10c : w7.heap[B9 + 1]? = some (.cells #[.int .i64 0, .int .u64 0, .int .i64 0, .int .i64 0, .int .u64 0, .bool false, .bool false, .bool false, .bool false, .int .i64 0] 33 (0, 0)) := by
              have h9 : w7.heap[B9 + 1]? = some (.cells (En.ar ⟨n0, n1, n2, n3, n4, n5, n6, n7, n8, n9⟩) 33 (0, 0)) := K10b.out
              rw [z2] at h9
              exact h9
            clear z1 z2
            go_wp2_with fail
            refine (HCT.out _ HB8.out).mono ?_
            rintro e w8 ⟨rfl, hb8⟩
            obtain ⟨p0, p1, p2, p3, p4, p5, p6, p7, p8, p9⟩ := cells10 (block_later (below_tr HB.out hb8) K9c)
            obtain ⟨s0, s1, s2, s3, s4, s5, s6, s7, s8, s9⟩ := cells10 (block_later (below_tr HB.out hb8) K10c)
            have HE := Hid.mk (below_tr HBEL7.out (below_tr HB.out hb8))
            clear K9c K10c hb8
            go_wp2
            go_ret
            exact ⟨rfl, HE.out⟩
          · go_wp2_with fail
            refine (HCT.out _ HB8.out).mono ?_
            rintro e w8 ⟨rfl, hb8⟩
            have HE := Hid.mk (below_tr HBEL7.out (below_tr HB.out hb8))
            clear hb8
            go_wp2
            go_ret
            exact ⟨rfl, HE.out⟩

theorem walk (ad : Option Addr) (cap : Nat) (l : List En) (i : Int) (w : World) (_ : l.length ≤ maxLen) (hr : RdA w ad l) (hok : ∀ e ∈ l, e.ok) (hF : Flds w) :
    Calls Tryd.prog 6 #[.slice ad l.length cap, .int .i64 i] w fun r w' => r = .returned (.bool true) ∧ Below w.heap.size w w' := by
  by_cases h : l.length ≤ 40
  · exact walk_short ad cap l i w h hr hok hF
  · exact walk_long ad cap l.length i w (by omega) hF

theorem met {W : World} (h : laidMet Tryd.prog Rows.tlbClashesRow.laid W) : Flds W := by
  have h1 := pair_of_reads (g := 0) (by kernel_rfl) (by kernel_rfl) (Lib.laidMet.reads h (n := "portreeve/desc.outField") (d := Rows.laid_portreeve_desc_outField) (by simp [Rows.tlbClashesRow]))
  exact ⟨h1.1, h1.2, trivial, trivial⟩

theorem own : ownKnob Tryd.prog.godebug = none := by kernel_rfl
theorem laidOut : laidOutB Tryd.prog = true := by kernel_rfl

set_option linter.unusedVariables false in
set_option maxRecDepth 100000 in
theorem contract (H : Type) (enc : TypeId × Value → H) (W : World) (base : Nat) (args : Array Value) (ds gs : List (DataW H)) (before : List MemPlace)
    (hval0 : ∀ (j : Nat) t v, Tryd.f6.params[j]? = some t → args[j]? = some v → Value.okWide Tryd.prog W .any base t v)
    (hW : DataW.Whole enc Tryd.prog Tryd.f6.params.toList Rows.tlbClashesSpec.vars false W args.toList ds gs before) (hL0 : laidMetH Tryd.prog Rows.tlbClashesRow.laid W) :
    Calls Tryd.prog 6 args W fun e W' => ∃ v, e = .returned v ∧ Rows.tlbClashesSpec.post enc Tryd.prog Tryd.f6 false true false false W args v W' := by
  have hL := hL0
  rw [MakeChecks.laidMetH_plain _ _ _ (by kernel_rfl)] at hL
  have hval := hval0
  have hW' := hW
  obtain ⟨p, q, hA0, hV, rfl, hfz, hnd⟩ := hW
  have hA : DataW.TrodAll enc Tryd.prog W 0 (fun _ => true) true Tryd.f6.params.toList args.toList ds p := hA0
  rw [Tryd.params6] at hA hval
  obtain ⟨v0, vs0, d0, ds0, p0, q0, hargs, rfl, rfl, h0, r0⟩ := trodAll_cons hA
  obtain ⟨v1, vs1, d1, ds1, p1, q1, rfl, rfl, rfl, h1, r1⟩ := trodAll_cons r0
  obtain ⟨rfl, rfl, rfl⟩ := trodAll_nil r1
  obtain rfl : args = #[v0, v1] := by cases args; simp_all
  obtain ⟨rfl, rfl⟩ := trodVars_none hV
  have k0 := h0
  have lt0 : ∀ x ∈ p0, x.block < W.heap.size := by obtain ⟨m, hm⟩ := k0; exact DataW.trod_lt m _ _ _ hm
  have k1 := h1
  have lt1 : ∀ x ∈ p1, x.block < W.heap.size := by obtain ⟨m, hm⟩ := k1; exact DataW.trod_lt m _ _ _ hm
  obtain ⟨ad0, cap0, l0, rfl, mx0, rd0, ok0⟩ := open_entries (hval 0 40 v0 rfl rfl) h0
  obtain ⟨a1, rfl, _, _, w1⟩ := open_int Tryd.underlying3 (hval 1 3 v1 rfl rfl) h1
  clear hA0 hval0
  refine (walk ad0 cap0 l0 a1 W mx0 rd0 ok0 (met hL)).mono fun e W' ⟨he, bel⟩ => ?_
  subst he
  exact ⟨_, rfl, _, _, _, [], _, [], hW', trodAll_mk1 (shut_bool Tryd.underlying4 _), (trodAll_cons_mk (Below.trod laidOut (by kernel_rfl) (of_decide_eq_true (by kernel_rfl)) k0 bel lt0) (trodAll_cons_mk (Below.trod laidOut (by kernel_rfl) (of_decide_eq_true (by kernel_rfl)) k1 bel lt1) trodAll_mk0)), rfl, bel.frame _, fun h => by cases h⟩

theorem laid_met (os : Os) : laidMet Tryd.prog Rows.tlbClashesRow.laid ((World.laidAll Tryd.prog os Rows.tlbClashesRow.laid).forCall (fun _ _ => 0) ⟨#[], #[.slice none 0 0, .int .i64 0], []⟩).memory :=
  laidMet_laidAll _ (by kernel_rfl) (by kernel_rfl)
theorem reads (os : Os) {H : Type} (enc : TypeId × Value → H) : ∃ places, DataW.whole enc Tryd.prog ((World.laidAll Tryd.prog os Rows.tlbClashesRow.laid).forCall (fun _ _ => 0) ⟨#[], #[.slice none 0 0, .int .i64 0], []⟩).memory Tryd.f6.params.toList Rows.tlbClashesSpec.vars false (#[.slice none 0 0, .int .i64 0] : Array Value).toList 8 = some ([.nil, .lit (.int .i64 0)], [], places) :=
  ⟨[], by kernel_rfl⟩

set_option maxRecDepth 100000 in
theorem lifted (os : Os) (started : os.Started) (H : Type) (enc : TypeId × Value → H) (F : Stop.Interp) :
    ReturnsInHanded {} Tryd.checked os 6 .any ((OpenSpec.ofChange Rows.tlbClashesSpec).preRow enc Tryd.prog Tryd.f6 Rows.tlbClashesRow.domain false Rows.tlbClashesRow.laid) (((OpenSpec.ofChange Rows.tlbClashesSpec).at F).post enc Tryd.prog Tryd.f6 false true false false) := by
  obtain ⟨places, hx⟩ := reads os enc
  refine returnsInHanded_of_row (C := Tryd.checked) (s := (OpenSpec.ofChange Rows.tlbClashesSpec)) own started (by kernel_rfl) Tryd.func6
    (witness_row_at (enc := enc) (C := Tryd.checked) false (World.laidAll Tryd.prog os Rows.tlbClashesRow.laid) #[.slice none 0 0, .int .i64 0] (World.laidAll_os _ _ _) (by kernel_rfl) (by kernel_rfl) (by kernel_rfl)
      (OpenSpec.preRow_of_cond 8 hx (by kernel_rfl) (fun k hk => by cases hk) (by kernel_rfl) (laid_met os))) ?_
  intro W base args ds gs before hval hW _ _ _ hL _ _
  exact contract H enc W base args ds gs before hval hW hL

theorem said : Rows.TlbClashesSaid :=
  OpenClaim.holds_of_cond 6 Tryd.f6 rfl rfl rfl rfl rfl rfl rfl ⟨rfl, rfl, rfl, rfl, rfl⟩ rfl rfl rfl rfl rfl (by kernel_rfl) Tryd.func6 (by kernel_rfl)
    (of_decide_eq_true (by kernel_rfl)) (by unfold Func.isWrapper; first | (rw [if_pos (by decide +kernel)]; kernel_rfl) | (rw [if_neg (by decide +kernel)]; exact ⟨rfl, rfl⟩))
    (fun os started H enc _ F => by rw [OpenClaim.pre_eq_preRow]; exact lifted os started H enc F)

theorem plain (f : FuncId) (fn : Func) (hf : Tryd.pinned.checked.prog.funcNamed "portreeve/portreevelaw07.TlbClashes" = some f) (hfn : Tryd.pinned.checked.prog.funcs[f]? = some fn) :
    false = Tryd.pinned.checked.prog.looks [] ∧ ∀ (j : Nat) t, fn.params[j]? = some t → Tryd.pinned.checked.prog.wantsStandIn t = false := by
  obtain rfl : f = 6 := Option.some.inj ((show Tryd.prog.funcNamed "portreeve/portreevelaw07.TlbClashes" = some 6 by kernel_rfl).symm.trans hf) |>.symm
  obtain rfl : fn = Tryd.f6 := (Option.some.inj (Tryd.func6.symm.trans hfn)).symm
  refine ⟨by kernel_rfl, fun j t ht => ?_⟩
  rw [Tryd.params6] at ht
  have hm : t ∈ [40, 3] := by simpa using Array.mem_of_getElem? ht
  have hall : ([40, 3].all fun u => !Tryd.prog.wantsStandIn u) = true := by kernel_rfl
  exact (show Tryd.prog.wantsStandIn t = false by simpa using List.all_eq_true.1 hall t hm)

theorem card : Rows.TlbClashesCardSaid :=
  Claim7.holds_tied_plain_at .later [] _ _ _ _ said (fun _ h => by cases h) (by kernel_rfl) (fun _ h => by cases h) tlbClashes_row_tie rfl ⟨rfl, rfl⟩ (by kernel_rfl) rfl plain (by kernel_rfl)

end Go.Proofs.YthebhgllnjgjhaaDoor.tlbClashes
