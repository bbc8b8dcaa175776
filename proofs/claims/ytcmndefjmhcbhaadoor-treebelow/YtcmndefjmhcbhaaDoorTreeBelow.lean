/- TreeBelow (P13.2 to P13.4): for every list of steps and every three addresses the law returns true: what is derived from a slot is below it, and what is moved stays below what it was; a slot that is removed takes nothing with it. No condition beyond the row's own. -/
import Derived.Test.YtcmndefjmhcbhaaDoorTreP3
set_option linter.unusedVariables false
namespace Go.Proofs.YtcmndefjmhcbhaaDoor.treeBelow
open Go.ChangeShapes Go.WideShapes Go.ChangeAt Go.RowKit Go.Lib TE

set_option maxHeartbeats 8000000 in
set_option maxRecDepth 1000000 in
theorem walk_out (ad : Option Addr) (cap n : Nat) (a b t : Nat) (w : World) (hn : 60 < n) (hF : SPrts w) :
    Calls Tryd.prog 3 #[.slice ad n cap, .int .u64 (a : Nat), .int .u64 (b : Nat), .int .u64 (t : Nat)] w fun r w' => r = .returned (.bool true) ∧ Below w.heap.size w w' := by
  have hC := anchor_c w hF
  have hnI : (60 : Int) < (n : Int) := by omega
  clear hF hn
  go_enter Tryd.func3, Tryd.ntmps3
  go_wp2_with fail
  refine hC.mono ?_
  rintro e w1 ⟨rfl, hb1⟩
  go_wp2
  go_ret
  exact ⟨rfl, hb1⟩

set_option maxHeartbeats 16000000 in
set_option maxRecDepth 1000000 in
theorem walk_in (ad : Option Addr) (cap : Nat) (ops : List To) (a b t : Nat) (w : World) (hn : ops.length ≤ 60) (hrd : ToRd w ad ops) (hok : ∀ q ∈ ops, q.Ok) (ha : a < 18446744073709551616) (hb : b < 18446744073709551616) (ht : t < 18446744073709551616) (hF : SPrts w) :
    Calls Tryd.prog 3 #[.slice ad ops.length cap, .int .u64 (a : Nat), .int .u64 (b : Nat), .int .u64 (t : Nat)] w fun r w' => r = .returned (.bool true) ∧ Below w.heap.size w w' := by
  have hC := anchor_c w hF
  have HF := Hid.mk hF
  have HRD := Hid.mk hrd
  have HOK : Hid (∀ i, i < ops.length → (gT ops i).Ok) := fun i hi => hok _ (by rw [gT_pos ops i hi]; exact List.getElem_mem hi)
  have HNO := Hid.mk hn
  have HA := Hid.mk ha
  have HA0 := Hid.mk ha
  have HB := Hid.mk hb
  have HT := Hid.mk ht
  have hnI : ¬ (60 : Int) < (ops.length : Int) := by omega
  clear hF hrd hok hn ha hb ht
  go_enter Tryd.func3, Tryd.ntmps3
  go_wp2_with fail
  refine hC.mono ?_
  rintro e w1 ⟨rfl, hb1⟩
  clear hC
  have HB1 := Hid.mk hb1
  go_wp2_with fail
  refine (opened_c _ (HF.out.later hb1)).mono ?_
  rintro e w2 ⟨x, ad2, O, rfl, h⟩
  replace h := Hid.mk (h.later (below_new w2 (.cells #[.int .u64 65536, .slice none 0 0] 29)))
  clear hb1
  go_upto_region 6 with fail
  generalize w2.alloc (.cells #[.int .u64 65536, .slice none 0 0] 29) = w3 at *
  go_wp2
  go_loopw [13, 31] (fun _ s31 wr => ∃ (i : Nat) (O : Nat → Prop) (n : Nat) (L : List Nd), i ≤ ops.length ∧ s31 = .int .i64 (i : Nat) ∧ n ≤ i * 400 ∧ L.length ≤ i ∧ Td 0 L ∧ TrL w1 wr O x ad2 65536 n (fun _ => 0) L) (fun _ s31 _ => ops.length - (RowKit.intOf s31).toNat)
  case atStart => exact ⟨0, _, _, [], Nat.zero_le _, rfl, Nat.le_refl _, Nat.le_refl _, trivial, h.out⟩
  case round =>
    clear h
    obtain ⟨i, O, n, L, hi, rfl, hnn, hLi, hTd, h⟩ := hrel
    have HH := Hid.mk h
    have HLI := Hid.mk hLi
    have HNN := Hid.mk hnn
    have HTD := Hid.mk hTd
    have HW := Hid.mk (below_tr HB1.out h.1.hb)
    clear h hLi hnn hTd
    by_cases hlt : i < ops.length
    · have hlt2 : (i : Int) < ops.length := by omega
      have HLT := Hid.mk hlt
      have hib : (i : Int) < 60 := by have := HNO.out; omega
      obtain ⟨g, oo, rfl, hg, hc⟩ := HRD.out i hlt
      have hbW := HW.out
      have d0 := cell_later hbW (hc 0 _ rfl)
      have d1 := cell_later hbW (hc 1 _ rfl)
      have d2 := cell_later hbW (hc 2 _ rfl)
      have d3 := cell_later hbW (hc 3 _ rfl)
      have d4 := cell_later hbW (hc 4 _ rfl)
      have d5 := cell_later hbW (hc 5 _ rfl)
      have d6 := cell_later hbW (hc 6 _ rfl)
      have d7 := cell_later hbW (hc 7 _ rfl)
      have d8 := cell_later hbW (hc 8 _ rfl)
      have d9 := cell_later hbW (hc 9 _ rfl)
      rw [Nat.add_zero] at d0
      have hq := Hid.mk (HOK.out i hlt)
      clear hc hi hlt hg hbW
      generalize gT ops i = q at *
      obtain ⟨kd, qa, qb, ⟨ck, ca, cb, cr, cg, cs, cm⟩⟩ := q
      simp only at d0 d1 d2 d3 d4 d5 d6 d7 d8 d9
      have HS := Hid.mk (fun w9 (hb9 : Below wr.heap.size wr w9) => done_c (HH.out.later hb9) (by have := HLI.out; have := HNO.out; have := HLT.out; omega) (by have := HLI.out; have := HNO.out; have := HLT.out; have := HNN.out; omega) hq.out (zr0 _) (zr0 _))
      have hrB := heap_alloc_new wr (.cells #[.int .i64 kd, .int .u64 (qa : Nat), .int .u64 (qb : Nat), .int .i64 ck, .int .u64 (ca : Nat), .int .i64 cb, .int .i64 cr, .int .i64 cg, .int .i64 cs, .int .u64 (cm : Nat)] 35)
      have hbB := below_new wr (.cells #[.int .i64 kd, .int .u64 (qa : Nat), .int .u64 (qb : Nat), .int .i64 ck, .int .u64 (ca : Nat), .int .i64 cb, .int .i64 cr, .int .i64 cg, .int .i64 cs, .int .u64 (cm : Nat)] 35)
      go_upto_region 11 with fail
      generalize wr.alloc (.cells #[.int .i64 kd, .int .u64 (qa : Nat), .int .u64 (qb : Nat), .int .i64 ck, .int .u64 (ca : Nat), .int .i64 cb, .int .i64 cr, .int .i64 cg, .int .i64 cs, .int .u64 (cm : Nat)] 35) = w8 at *
      obtain ⟨o0, o1, o2, o3, o4, o5, o6, o7, o8, o9⟩ := cells10 hrB
      have HS2 := Hid.mk (HS.out _ hbB)
      clear d0 d1 d2 d3 d4 d5 d6 d7 d8 d9 hrB HS hbB
      generalize wr.heap.size = BB at *
      go_wp2_with fail
      refine HS2.out.mono ?_
      clear HS2 o0 o1 o2 o3 o4 o5 o6 o7 o8 o9
      rintro e w9 ⟨rfl, hN⟩
      obtain ⟨O9, h9, -, -⟩ := hN.open_
      have H9 := Hid.mk h9
      clear hN h9
      go_wp2
      exact ⟨⟨i + 1, O9, _, _, by have := HLT.out; omega, by go_num, by have := HNN.out; have := HLI.out; have := HNO.out; have := HLT.out; omega, by have := opL_len 65536 L ⟨kd, qa, qb, ⟨ck, ca, cb, cr, cg, cs, cm⟩⟩; have := HLI.out; omega, HTD.out.opL, H9.out⟩, by have := HLT.out; simp [RowKit.intOf]; omega⟩
    · have hlt2 : ¬ (i : Int) < ops.length := by omega
      have HL : Hid (L.length ≤ 60) := by have := HLI.out; have := HNO.out; show _ ≤ _; omega
      have HN : Hid (n ≤ 24000) := by have := HNN.out; have := HNO.out; show _ ≤ _; omega
      clear hlt hi HLI HNN HNO
      go_wp2_with fail
      refine (count_c HH.out.1).mono ?_
      rintro e y1 ⟨rfl, hb⟩
      replace HH := Hid.mk (HH.out.later hb)
      clear hb
      go_wp2_with fail
      refine (thread_c 128 _).mono ?_
      rintro e y2 ⟨rfl, hb⟩
      replace HH := Hid.mk (HH.out.later hb)
      clear hb
      have cCh := child_l HH.out (by have := HN.out; omega) HA.out (zr0 _) HB.out (zr0 _) (thr_ok (a := 128) (by decide))
      have HWf := Hid.mk HH.out.2
      by_cases hE : chE 65536 L a b (thr 128).ft = 0
      · rw [if_pos hE, hE] at cCh
        go_wp2_with fail
        refine cCh.mono ?_
        clear cCh HH
        rintro e y3 ⟨rfl, hN3⟩
        obtain ⟨O3, h3, -, -⟩ := hN3.open_
        obtain ⟨d, l, K0, hBa, hM⟩ := kid_new HWf.out HTD.out hE h3.2
        have HBA := Hid.mk hBa
        have HM := Hid.mk hM
        have K := Hid.mk K0
        have h := Hid.mk h3
        have hdd : (d : Int) ≤ 4096 := by
          obtain ⟨s, hs, e⟩ := K0.ha
          have := (h3.1.good hs).1.hd
          omega
        have HLen := Hid.mk K0.len
        have hkk : (L.length : Int) ≤ 60 := by have := HL.out; omega
        replace HL : Hid ((insA a b (thr 128).cp L).length ≤ 61) := by have := HL.out; have := HLen.out; show _ ≤ _; omega
        replace HN : Hid (n + 20 ≤ 24020) := by have := HN.out; show _ ≤ _; omega
        have eb : ((b : Int) != (b : Int)) = false := by simp
        clear hN3 h3 K0 hBa hM hE
        generalize insA a b (thr 128).cp L = L1 at *
        go_wp2_with fail
        refine (K.out.low h.out (by have := HL.out; omega) HA.out).mono ?_
        rintro e y4 ⟨⟨v4, rfl, hv4, hg4⟩, hb⟩
        have HO := Hid.mk h.out.1.olt
        replace h := Hid.mk (h.out.later hb)
        clear hb
        have HV := Hid.mk hv4
        obtain ⟨g4, c4, rfl, q4⟩ := ws_lit hv4 (by simp)
        have hOg : Hid (¬ O3 g4) := fun c => by have := HO.out g4 c; have := hg4 g4 (by simp [Value.ownBlock]); omega
        clear hg4 HO
        have q40 : y4.cell? ⟨g4, 0, none⟩ = some (.int .u64 (b : Nat)) := q4 0 (by simp)
        have hln : ¬ (((b :: l).length : Nat) : Int) = 0 := by simp; omega
        clear hv4 q4
        generalize hNl : (b :: l).length = Nl at *
        go_wp2_with fail
        refine (K.out.blt h.out).mono ?_
        rintro e y5 ⟨rfl, hb⟩
        replace h := Hid.mk (h.out.later hb)
        replace HV := Hid.mk (HV.out.later hb)
        replace q40 := cell_later hb q40
        clear hb
        go_wp2_with fail
        refine (K.out.alt h.out).mono ?_
        rintro e y6 ⟨rfl, hb⟩
        replace h := Hid.mk (h.out.later hb)
        replace HV := Hid.mk (HV.out.later hb)
        clear hb q40
        go_wp2_with fail
        refine (K.out.cnt h.out).mono ?_
        rintro e y7 ⟨rfl, hb⟩
        replace h := Hid.mk (h.out.later hb)
        replace HV := Hid.mk (HV.out.later hb)
        clear hb
        have cBare := bare_l h.out (by have := HL.out; omega) HB.out (zr0 _)
        rw [HBA.out] at cBare
        go_wp2_with fail
        refine cBare.mono ?_
        clear cBare
        rintro e y8 ⟨rfl, hb⟩
        replace h := Hid.mk (h.out.later hb)
        replace HV := Hid.mk (HV.out.later hb)
        clear hb
        have cMv := move_l h.out (by have := HN.out; omega) HA.out (zr0 _) HT.out (zr0 _)
        by_cases hE2 : mvE 65536 L1 a t = 0
        · rw [if_pos hE2, hE2] at cMv
          go_wp2_with fail
          refine cMv.mono ?_
          clear cMv
          rintro e y9 ⟨rfl, hN3⟩
          obtain ⟨O9, h9, t9, -⟩ := hN3.open_
          obtain ⟨K9, hs9⟩ := HM.out t hE2 h9.2
          replace HV : Hid (WsAt y9 (.slice (some ⟨g4, 0, none⟩) Nl c4) (b :: l)) := HV.out.turn t9 (fun g hg => by simp [Value.ownBlock] at hg; subst hg; exact hOg.out)
          clear h K HLen
          have h := Hid.mk h9
          have K := Hid.mk K9
          replace HL : Hid ((movL a t L1).length ≤ 61) := by rw [movL_len]; exact HL.out
          replace HN : Hid (n + 20 + 24 ≤ 24044) := by have := HN.out; show _ ≤ _; omega
          have HS9 := Hid.mk hs9
          replace HA := HT
          clear hN3 h9 t9 K9 hs9 hE2 HM
          generalize movL a t L1 = L2 at *
          go_wp2_with fail
          refine (K.out.low h.out (by have := HL.out; omega) HT.out).mono ?_
          rintro e z5 ⟨⟨v5, rfl, hv5, -⟩, hb⟩
          replace h := Hid.mk (h.out.later hb)
          replace HV := Hid.mk (HV.out.later hb)
          clear hb
          go_wp2_with fail
          refine (listed_c hv5 HV.out (by have := K.out.ll; have := HL.out; omega)).mono ?_
          clear HV hv5
          rintro e z6 ⟨rfl, hb⟩
          replace h := Hid.mk (h.out.later hb)
          clear hb
          go_wp2_with fail
          refine (depth_no h.out.1 HA0.out (zr0 _) HS9.out).mono ?_
          rintro e z7 ⟨rfl, hb⟩
          replace h := Hid.mk (h.out.later hb)
          clear hb
          go_wp2_with fail
          refine (K.out.alt h.out).mono ?_
          rintro e z1 ⟨rfl, hb⟩
          replace h := Hid.mk (h.out.later hb)
          clear hb
          go_wp2_with fail
          refine (K.out.out h.out (by have := HL.out; have := K.out.len; omega) (by have := HL.out; have := K.out.len; have := HN.out; omega) HA.out).mono ?_
          rintro e z2 ⟨rfl, O9, h9⟩
          clear h
          have h := Hid.mk h9
          clear h9
          go_wp2_with fail
          refine (K.out.cnt2 h.out).mono ?_
          rintro e z3 ⟨rfl, hb⟩
          replace h := Hid.mk (h.out.later hb)
          clear hb
          go_wp2_with fail
          refine (K.out.blt2 h.out).mono ?_
          rintro e z4 ⟨rfl, hb⟩
          replace h := Hid.mk (h.out.later hb)
          clear hb
          go_wp2
          go_ret
          exact ⟨rfl, below_tr HB1.out h.out.1.hb⟩
        · have dE2 : ((mvE 65536 L1 a t : Int) == 0) = false := by rw [beq_eq_false_iff_ne]; exact hE2
          rw [if_neg hE2] at cMv
          generalize mvE 65536 L1 a t = E2 at *
          go_wp2_with fail
          refine cMv.mono ?_
          clear cMv h
          rintro e y9 ⟨rfl, hN3⟩
          obtain ⟨O9, h9, -, -⟩ := hN3.open_
          have h := Hid.mk h9
          replace HN : Hid (n + 20 + 24 ≤ 24044) := by have := HN.out; show _ ≤ _; omega
          clear hN3 h9 HM HV
          go_wp2_with fail
          refine (K.out.alt h.out).mono ?_
          rintro e z1 ⟨rfl, hb⟩
          replace h := Hid.mk (h.out.later hb)
          clear hb
          go_wp2_with fail
          refine (K.out.out h.out (by have := HL.out; have := K.out.len; omega) (by have := HL.out; have := K.out.len; have := HN.out; omega) HA.out).mono ?_
          rintro e z2 ⟨rfl, O9, h9⟩
          clear h
          have h := Hid.mk h9
          clear h9
          go_wp2_with fail
          refine (K.out.cnt2 h.out).mono ?_
          rintro e z3 ⟨rfl, hb⟩
          replace h := Hid.mk (h.out.later hb)
          clear hb
          go_wp2_with fail
          refine (K.out.blt2 h.out).mono ?_
          rintro e z4 ⟨rfl, hb⟩
          replace h := Hid.mk (h.out.later hb)
          clear hb
          go_wp2
          go_ret
          exact ⟨rfl, below_tr HB1.out h.out.1.hb⟩
      · rw [if_neg hE] at cCh
        have dE : ((chE 65536 L a b (thr 128).ft : Int) != 0) = true := by rw [bne_iff_ne]; exact hE
        generalize chE 65536 L a b (thr 128).ft = E at *
        go_wp2_with fail
        refine cCh.mono ?_
        clear cCh HH
        rintro e y3 ⟨rfl, hN3⟩
        obtain ⟨O3, h3, -, -⟩ := hN3.open_
        replace h3 := Hid.mk h3
        clear hN3
        go_wp2_with fail
        refine (count_c h3.out.1).mono ?_
        rintro e y4 ⟨rfl, hb⟩
        replace h3 := Hid.mk (h3.out.later hb)
        clear hb
        go_wp2
        go_ret
        exact ⟨rfl, below_tr HB1.out h3.out.1.hb⟩

theorem walk (ad : Option Addr) (cap : Nat) (ops : List To) (a b t : Nat) (w : World) (_ : ops.length ≤ maxLen) (hrd : ToRd w ad ops) (hok : ∀ q ∈ ops, q.Ok) (ha : a < 18446744073709551616) (hb : b < 18446744073709551616) (ht : t < 18446744073709551616) (hF : SPrts w) :
    Calls Tryd.prog 3 #[.slice ad ops.length cap, .int .u64 (a : Nat), .int .u64 (b : Nat), .int .u64 (t : Nat)] w fun r w' => r = .returned (.bool true) ∧ Below w.heap.size w w' := by
  by_cases h : 60 < ops.length
  · exact walk_out ad cap ops.length a b t w h hF
  · exact walk_in ad cap ops a b t w (by omega) hrd hok ha hb ht hF
theorem met {W : World} (h : laidMet Tryd.prog Rows.treeBelowRow.laid W) : SPrts W := by
  have h0 := part_of_reads (g := 2) (by kernel_rfl) (by kernel_rfl) (Lib.laidMet.reads h (n := "portreeve/cap.kindPart") (d := Rows.laid_portreeve_cap_kindPart) (by simp [Rows.treeBelowRow]))
  have h1 := part_of_reads (g := 4) (by kernel_rfl) (by kernel_rfl) (Lib.laidMet.reads h (n := "portreeve/cap.bitsPart") (d := Rows.laid_portreeve_cap_bitsPart) (by simp [Rows.treeBelowRow]))
  have h2 := part_of_reads (g := 5) (by kernel_rfl) (by kernel_rfl) (Lib.laidMet.reads h (n := "portreeve/cap.rightsPart") (d := Rows.laid_portreeve_cap_rightsPart) (by simp [Rows.treeBelowRow]))
  have h3 := part_of_reads (g := 6) (by kernel_rfl) (by kernel_rfl) (Lib.laidMet.reads h (n := "portreeve/cap.guardPart") (d := Rows.laid_portreeve_cap_guardPart) (by simp [Rows.treeBelowRow]))
  have h4 := part_of_reads (g := 7) (by kernel_rfl) (by kernel_rfl) (Lib.laidMet.reads h (n := "portreeve/cap.asidPart") (d := Rows.laid_portreeve_cap_asidPart) (by simp [Rows.treeBelowRow]))
  have h5 := part_of_reads (g := 3) (by kernel_rfl) (by kernel_rfl) (Lib.laidMet.reads h (n := "portreeve/cap.atPart") (d := Rows.laid_portreeve_cap_atPart) (by simp [Rows.treeBelowRow]))
  have g0 := two_of_reads (g := 0) (by kernel_rfl) (by kernel_rfl) (Lib.laidMet.reads h (n := "portreeve/slot.nextPart") (d := Rows.laid_portreeve_slot_nextPart) (by simp [Rows.treeBelowRow]))
  have g1 := two_of_reads (g := 1) (by kernel_rfl) (by kernel_rfl) (Lib.laidMet.reads h (n := "portreeve/slot.prevPart") (d := Rows.laid_portreeve_slot_prevPart) (by simp [Rows.treeBelowRow]))
  exact ⟨⟨h0.1, h0.2.1, h0.2.2, h1.1, h1.2.1, h1.2.2, h2.1, h2.2.1, h2.2.2, h3.1, h3.2.1, h3.2.2, h4.1, h4.2.1, h4.2.2, h5.1, h5.2.1, h5.2.2⟩, g0.1, g0.2, g1.1, g1.2⟩


theorem own : ownKnob Tryd.prog.godebug = none := by kernel_rfl
theorem laidOut : laidOutB Tryd.prog = true := by kernel_rfl

set_option linter.unusedVariables false in
set_option maxRecDepth 100000 in
set_option maxHeartbeats 4000000 in
theorem contract (H : Type) (enc : TypeId × Value → H) (W : World) (base : Nat) (args : Array Value) (ds gs : List (DataW H)) (before : List MemPlace)
    (hval0 : ∀ (j : Nat) t v, Tryd.f3.params[j]? = some t → args[j]? = some v → Value.okWide Tryd.prog W .any base t v)
    (hW : DataW.Whole enc Tryd.prog Tryd.f3.params.toList Rows.treeBelowSpec.vars false W args.toList ds gs before) (hL0 : laidMetH Tryd.prog Rows.treeBelowRow.laid W) :
    Calls Tryd.prog 3 args W fun e W' => ∃ v, e = .returned v ∧ Rows.treeBelowSpec.post enc Tryd.prog Tryd.f3 false true false false W args v W' := by
  have hL := hL0
  rw [MakeChecks.laidMetH_plain _ _ _ (by kernel_rfl)] at hL
  have hval := hval0
  have hW' := hW
  obtain ⟨p, q, hA0, hV, rfl, hfz, hnd⟩ := hW
  have hA : DataW.TrodAll enc Tryd.prog W 0 (fun _ => true) true Tryd.f3.params.toList args.toList ds p := hA0
  rw [Tryd.params3] at hA hval
  obtain ⟨v0, vs0, d0, ds0, p0, q0, hargs, rfl, rfl, h0, r0⟩ := trodAll_cons hA
  obtain ⟨v1, vs1, d1, ds1, p1, q1, rfl, rfl, rfl, h1, r1⟩ := trodAll_cons r0
  obtain ⟨v2, vs2, d2, ds2, p2, q2, rfl, rfl, rfl, h2, r2⟩ := trodAll_cons r1
  obtain ⟨v3, vs3, d3, ds3, p3, q3, rfl, rfl, rfl, h3, r3⟩ := trodAll_cons r2
  obtain ⟨rfl, rfl, rfl⟩ := trodAll_nil r3
  obtain rfl : args = #[v0, v1, v2, v3] := by cases args; simp_all
  obtain ⟨rfl, rfl⟩ := trodVars_none hV
  have k0 := h0
  have lt0 : ∀ x ∈ p0, x.block < W.heap.size := by obtain ⟨m, hm⟩ := k0; exact DataW.trod_lt m _ _ _ hm
  have k1 := h1
  have lt1 : ∀ x ∈ p1, x.block < W.heap.size := by obtain ⟨m, hm⟩ := k1; exact DataW.trod_lt m _ _ _ hm
  have k2 := h2
  have lt2 : ∀ x ∈ p2, x.block < W.heap.size := by obtain ⟨m, hm⟩ := k2; exact DataW.trod_lt m _ _ _ hm
  have k3 := h3
  have lt3 : ∀ x ∈ p3, x.block < W.heap.size := by obtain ⟨m, hm⟩ := k3; exact DataW.trod_lt m _ _ _ hm
  obtain ⟨ad0, cap0, l0, rfl, mx0, rd0, ok0⟩ := open_ops (hval 0 22 v0 rfl rfl) h0
  obtain ⟨a1, rfl, _, _, w1⟩ := open_int Tryd.underlying23 (hval 1 23 v1 rfl rfl) h1
  obtain ⟨x1, rfl⟩ := Int.eq_ofNat_of_zero_le (bounds_u64 w1).1
  have b1 : x1 < 18446744073709551616 := by have := (bounds_u64 w1).2; omega
  obtain ⟨a2, rfl, _, _, w2⟩ := open_int Tryd.underlying23 (hval 2 23 v2 rfl rfl) h2
  obtain ⟨x2, rfl⟩ := Int.eq_ofNat_of_zero_le (bounds_u64 w2).1
  have b2 : x2 < 18446744073709551616 := by have := (bounds_u64 w2).2; omega
  obtain ⟨a3, rfl, _, _, w3⟩ := open_int Tryd.underlying23 (hval 3 23 v3 rfl rfl) h3
  obtain ⟨x3, rfl⟩ := Int.eq_ofNat_of_zero_le (bounds_u64 w3).1
  have b3 : x3 < 18446744073709551616 := by have := (bounds_u64 w3).2; omega
  clear hA0 hval0
  refine (walk ad0 cap0 l0 x1 x2 x3 W mx0 rd0 ok0 b1 b2 b3 (met hL)).mono fun e W' ⟨he, bel⟩ => ?_
  subst he
  exact ⟨_, rfl, _, _, _, [], _, [], hW', trodAll_mk1 (shut_bool Tryd.underlying4 _), (trodAll_cons_mk (Below.trod laidOut (by kernel_rfl) (of_decide_eq_true (by kernel_rfl)) k0 bel lt0) (trodAll_cons_mk (Below.trod laidOut (by kernel_rfl) (of_decide_eq_true (by kernel_rfl)) k1 bel lt1) (trodAll_cons_mk (Below.trod laidOut (by kernel_rfl) (of_decide_eq_true (by kernel_rfl)) k2 bel lt2) (trodAll_cons_mk (Below.trod laidOut (by kernel_rfl) (of_decide_eq_true (by kernel_rfl)) k3 bel lt3) trodAll_mk0)))), rfl, bel.frame _, fun h => by cases h⟩

theorem laid_met (os : Os) : laidMet Tryd.prog Rows.treeBelowRow.laid ((World.laidAll Tryd.prog os Rows.treeBelowRow.laid).forCall (fun _ _ => 0) ⟨#[], #[.slice none 0 0, .int .u64 0, .int .u64 0, .int .u64 0], []⟩).memory :=
  laidMet_laidAll _ (by kernel_rfl) (by kernel_rfl)
theorem reads (os : Os) {H : Type} (enc : TypeId × Value → H) : ∃ places, DataW.whole enc Tryd.prog ((World.laidAll Tryd.prog os Rows.treeBelowRow.laid).forCall (fun _ _ => 0) ⟨#[], #[.slice none 0 0, .int .u64 0, .int .u64 0, .int .u64 0], []⟩).memory Tryd.f3.params.toList Rows.treeBelowSpec.vars false (#[.slice none 0 0, .int .u64 0, .int .u64 0, .int .u64 0] : Array Value).toList 8 = some ([.nil, .lit (.int .u64 0), .lit (.int .u64 0), .lit (.int .u64 0)], [], places) :=
  ⟨[], by kernel_rfl⟩

set_option maxRecDepth 100000 in
theorem lifted (os : Os) (started : os.Started) (H : Type) (enc : TypeId × Value → H) (F : Stop.Interp) :
    ReturnsInHanded {} Tryd.checked os 3 .any ((OpenSpec.ofChange Rows.treeBelowSpec).preRow enc Tryd.prog Tryd.f3 Rows.treeBelowRow.domain false Rows.treeBelowRow.laid) (((OpenSpec.ofChange Rows.treeBelowSpec).at F).post enc Tryd.prog Tryd.f3 false true false false) := by
  obtain ⟨places, hx⟩ := reads os enc
  refine returnsInHanded_of_row (C := Tryd.checked) (s := (OpenSpec.ofChange Rows.treeBelowSpec)) own started (by kernel_rfl) Tryd.func3
    (witness_row_at (enc := enc) (C := Tryd.checked) false (World.laidAll Tryd.prog os Rows.treeBelowRow.laid) #[.slice none 0 0, .int .u64 0, .int .u64 0, .int .u64 0] (World.laidAll_os _ _ _) (by kernel_rfl) (by kernel_rfl) (by kernel_rfl)
      (OpenSpec.preRow_of_cond 8 hx (by kernel_rfl) (fun k hk => by cases hk) (by kernel_rfl) (laid_met os))) ?_
  intro W base args ds gs before hval hW _ _ _ hL _ _
  exact contract H enc W base args ds gs before hval hW hL

theorem said : Rows.TreeBelowSaid :=
  OpenClaim.holds_of_cond 3 Tryd.f3 rfl rfl rfl rfl rfl rfl rfl ⟨rfl, rfl, rfl, rfl, rfl⟩ rfl rfl rfl rfl rfl (by kernel_rfl) Tryd.func3 (by kernel_rfl)
    (of_decide_eq_true (by kernel_rfl)) (by unfold Func.isWrapper; first | (rw [if_pos (by decide +kernel)]; kernel_rfl) | (rw [if_neg (by decide +kernel)]; exact ⟨rfl, rfl⟩))
    (fun os started H enc _ F => by rw [OpenClaim.pre_eq_preRow]; exact lifted os started H enc F)

theorem plain (f : FuncId) (fn : Func) (hf : Tryd.pinned.checked.prog.funcNamed "portreeve/portreevelaw13.TreeBelow" = some f) (hfn : Tryd.pinned.checked.prog.funcs[f]? = some fn) :
    false = Tryd.pinned.checked.prog.looks [] ∧ ∀ (j : Nat) t, fn.params[j]? = some t → Tryd.pinned.checked.prog.wantsStandIn t = false := by
  obtain rfl : f = 3 := Option.some.inj ((show Tryd.prog.funcNamed "portreeve/portreevelaw13.TreeBelow" = some 3 by kernel_rfl).symm.trans hf) |>.symm
  obtain rfl : fn = Tryd.f3 := (Option.some.inj (Tryd.func3.symm.trans hfn)).symm
  refine ⟨by kernel_rfl, fun j t ht => ?_⟩
  rw [Tryd.params3] at ht
  have hm : t ∈ [22, 23, 23, 23] := by simpa using Array.mem_of_getElem? ht
  have hall : ([22, 23, 23, 23].all fun u => !Tryd.prog.wantsStandIn u) = true := by kernel_rfl
  exact (show Tryd.prog.wantsStandIn t = false by simpa using List.all_eq_true.1 hall t hm)

theorem card : Rows.TreeBelowCardSaid :=
  Claim7.holds_tied_plain_at .later [] _ _ _ _ said (fun _ h => by cases h) (by kernel_rfl) (fun _ h => by cases h) treeBelow_row_tie rfl ⟨rfl, rfl⟩ (by kernel_rfl) rfl plain (by kernel_rfl)

end Go.Proofs.YtcmndefjmhcbhaaDoor.treeBelow
